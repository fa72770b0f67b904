/- SoftPoints: a turn behind its request or call. Conditions: those stated in each theorem. -/
import Derived.Test.YtgdfiggloifncaaSoftPd
import Derived.Deep.CutBlock
namespace Go.Proofs.Ytgdfiggloifncaa
open Go.RowKit Go.BigFrame Go.Maps Go.ChangeMaps

set_option maxRecDepth 100000 in
set_option maxHeartbeats 8000000 in
theorem sh_mid {w W : World} {B n bm cm bs cs ba g gc p j : Nat} {mix : List Value} {m sh : Int → Int} {ats : List Int} {ps : List Nat} {xs : List PV} {x y : PV} (x0 x1 x2 x3 x4 x10 x11 x12 x13 x17 x18 x19 x20 x21 x22 x23 x24 x25 x26 x27 x28 x29 x30 x31 x32 x33 x34 x35 x36 x37 x38 x39 x40 x41 x42 x43 x44 x45 x46 x47 x48 x49 x50 x51 x52 x53 x54 x55 x56 x57 x58 x59 x60 x61 x62 x63 x64 x65 x66 x67 x68 x69 x70 x71 x72 x73 x74 x75 x76 x77 x78 x79 x80 x81 x82 x83 x84 x85 x86 x87 x88 x89 x90 x91 x92 x93 x94 x95 x96 x97 x98 x99 x100 x101 x102 x103 x104 x105 x106 x107 x108 x109 x110 x111 x112 x113 x114 x115 x116 x117 x118 x119 x120 x121 x122 x123 x124 x125 x126 x127 x128 x129 x130 x131 x132 x133 x134 x135 x136 x137 x138 x139 x140 x141 x142 x143 x144 x145 x146 x147 x148 x149 x150 x151 x152 x153 x154 x155 x156 x157 x158 x159 x160 x161 x162 x163 x164 x165 x166 x167 x168 x169 x170 x171 x172 x173 x174 x175 x176 x177 x178 x179 x180 x181 x182 x183 x184 x185 x186 x187 x188 x189 x190 x191 x192 x193 x194 x195 x196 x197 x198 x199 x200 x201 x202 x203 x204 x205 x206 x207 x208 x209 x210 x211 x212 x213 x214 x215 x216 x217 x218 x219 x220 x221 x222 x223 x224 x225 x226 x227 x228 x229 x230 x231 x232 x233 x234 x235 : Value) (Q0 : Exit → Act → World → Prop)
    (hv : Inv (xs.set j y) m (if y.writing = true ∧ x.writing = false then putL sh y.log.w else sh)) (hpr : y.pts = x.pts ∨ y.pts = x.pts + 1 ∧ ∀ q ∈ y.log.r, m q.a = q.v) (hpx : 0 ≤ x.pts ∧ x.pts ≤ 1000000) (hxl : xs.length = n) (hpl : ps.length = n) (hn : 1 ≤ n ∧ n ≤ 3) (hm : 0 ≤ m 0 ∧ m 0 ≤ 1000000) (hcs : cs ≤ 900000)
    (hp : ps[j]? = some p) (hx : xs[j]? = some x)
    (hs : Aparts w W (allP (baseP B mix bm cm m bs cs sh ba ats (.slice (some ⟨g, 0, none⟩) n gc) ps) ps (xs.set j y)))
    (hend : ∀ (u4 u19 u21 u23 u24 u25 u26 u27 u28 u124 u125 u126 u127 u128 u129 u130 u131 u132 u133 u134 u135 u136 u137 u138 u139 u140 u141 u142 u143 u144 u145 u146 u147 u148 u149 u150 u151 u152 u153 u154 u155 u156 u157 u158 u159 u160 u161 u162 u163 u164 u165 u166 u167 u168 u169 u170 u171 u172 u173 u174 u175 u176 u177 u178 u179 u180 u181 u182 u183 u184 u185 u186 u187 u188 u189 u190 u191 u192 u193 u194 u195 u196 u197 u198 u199 u200 u201 u202 u203 u204 u205 u206 u207 u208 u209 u210 u211 u212 u213 u214 u215 u216 u217 u218 u219 u220 u221 u222 u223 u224 u225 u226 u227 u228 u229 u230 u231 u232 u233 u234 u235 : Value) (w' : World) (cs' : Nat), cs' ≤ cs + 128 → Aparts w w' (allP (baseP B mix bm cm m bs cs' (if y.writing = true ∧ x.writing = false then putL sh y.log.w else sh) ba ats (.slice (some ⟨g, 0, none⟩) n gc) ps) ps (xs.set j y)) → Q0 .normal ⟨List.toArray (x0 :: x1 :: x2 :: x3 :: u4 :: .int .i64 6 :: .map (some bm) :: .map (some bs) :: .int .i64 (n : Int) :: .slice (some ⟨g, 0, none⟩) n gc :: x10 :: x11 :: x12 :: x13 :: .pointer (some ⟨p, 0, none⟩) :: .int .i64 x.pts :: .bool x.writing :: x17 :: x18 :: u19 :: x20 :: u21 :: x22 :: u23 :: u24 :: u25 :: u26 :: u27 :: u28 :: x29 :: x30 :: x31 :: x32 :: x33 :: x34 :: x35 :: x36 :: x37 :: x38 :: x39 :: x40 :: x41 :: x42 :: x43 :: x44 :: x45 :: x46 :: x47 :: x48 :: x49 :: x50 :: x51 :: x52 :: x53 :: x54 :: x55 :: x56 :: x57 :: x58 :: x59 :: x60 :: x61 :: x62 :: x63 :: x64 :: x65 :: x66 :: x67 :: x68 :: x69 :: x70 :: x71 :: x72 :: x73 :: x74 :: x75 :: x76 :: x77 :: x78 :: x79 :: x80 :: x81 :: x82 :: x83 :: x84 :: x85 :: x86 :: x87 :: x88 :: x89 :: x90 :: x91 :: x92 :: x93 :: x94 :: x95 :: x96 :: x97 :: x98 :: x99 :: x100 :: x101 :: x102 :: x103 :: x104 :: x105 :: x106 :: x107 :: x108 :: x109 :: x110 :: x111 :: x112 :: x113 :: x114 :: x115 :: x116 :: x117 :: x118 :: x119 :: x120 :: x121 :: x122 :: x123 :: u124 :: u125 :: u126 :: u127 :: u128 :: u129 :: u130 :: u131 :: u132 :: u133 :: u134 :: u135 :: u136 :: u137 :: u138 :: u139 :: u140 :: u141 :: u142 :: u143 :: u144 :: u145 :: u146 :: u147 :: u148 :: u149 :: u150 :: u151 :: u152 :: u153 :: u154 :: u155 :: u156 :: u157 :: u158 :: u159 :: u160 :: u161 :: u162 :: u163 :: u164 :: u165 :: u166 :: u167 :: u168 :: u169 :: u170 :: u171 :: u172 :: u173 :: u174 :: u175 :: u176 :: u177 :: u178 :: u179 :: u180 :: u181 :: u182 :: u183 :: u184 :: u185 :: u186 :: u187 :: u188 :: u189 :: u190 :: u191 :: u192 :: u193 :: u194 :: u195 :: u196 :: u197 :: u198 :: u199 :: u200 :: u201 :: u202 :: u203 :: u204 :: u205 :: u206 :: u207 :: u208 :: u209 :: u210 :: u211 :: u212 :: u213 :: u214 :: u215 :: u216 :: u217 :: u218 :: u219 :: u220 :: u221 :: u222 :: u223 :: u224 :: u225 :: u226 :: u227 :: u228 :: u229 :: u230 :: u231 :: u232 :: u233 :: u234 :: u235 :: []), []⟩ w') :
    Code.wp Try.prog shMid Q0 ⟨List.toArray (x0 :: x1 :: x2 :: x3 :: x4 :: .int .i64 6 :: .map (some bm) :: .map (some bs) :: .int .i64 (n : Int) :: .slice (some ⟨g, 0, none⟩) n gc :: x10 :: x11 :: x12 :: x13 :: .pointer (some ⟨p, 0, none⟩) :: .int .i64 x.pts :: .bool x.writing :: x17 :: x18 :: x19 :: x20 :: x21 :: x22 :: x23 :: x24 :: x25 :: x26 :: x27 :: x28 :: x29 :: x30 :: x31 :: x32 :: x33 :: x34 :: x35 :: x36 :: x37 :: x38 :: x39 :: x40 :: x41 :: x42 :: x43 :: x44 :: x45 :: x46 :: x47 :: x48 :: x49 :: x50 :: x51 :: x52 :: x53 :: x54 :: x55 :: x56 :: x57 :: x58 :: x59 :: x60 :: x61 :: x62 :: x63 :: x64 :: x65 :: x66 :: x67 :: x68 :: x69 :: x70 :: x71 :: x72 :: x73 :: x74 :: x75 :: x76 :: x77 :: x78 :: x79 :: x80 :: x81 :: x82 :: x83 :: x84 :: x85 :: x86 :: x87 :: x88 :: x89 :: x90 :: x91 :: x92 :: x93 :: x94 :: x95 :: x96 :: x97 :: x98 :: x99 :: x100 :: x101 :: x102 :: x103 :: x104 :: x105 :: x106 :: x107 :: x108 :: x109 :: x110 :: x111 :: x112 :: x113 :: x114 :: x115 :: x116 :: x117 :: x118 :: x119 :: x120 :: x121 :: x122 :: x123 :: x124 :: x125 :: x126 :: x127 :: x128 :: x129 :: x130 :: x131 :: x132 :: x133 :: x134 :: x135 :: x136 :: x137 :: x138 :: x139 :: x140 :: x141 :: x142 :: x143 :: x144 :: x145 :: x146 :: x147 :: x148 :: x149 :: x150 :: x151 :: x152 :: x153 :: x154 :: x155 :: x156 :: x157 :: x158 :: x159 :: x160 :: x161 :: x162 :: x163 :: x164 :: x165 :: x166 :: x167 :: x168 :: x169 :: x170 :: x171 :: x172 :: x173 :: x174 :: x175 :: x176 :: x177 :: x178 :: x179 :: x180 :: x181 :: x182 :: x183 :: x184 :: x185 :: x186 :: x187 :: x188 :: x189 :: x190 :: x191 :: x192 :: x193 :: x194 :: x195 :: x196 :: x197 :: x198 :: x199 :: x200 :: x201 :: x202 :: x203 :: x204 :: x205 :: x206 :: x207 :: x208 :: x209 :: x210 :: x211 :: x212 :: x213 :: x214 :: x215 :: x216 :: x217 :: x218 :: x219 :: x220 :: x221 :: x222 :: x223 :: x224 :: x225 :: x226 :: x227 :: x228 :: x229 :: x230 :: x231 :: x232 :: x233 :: x234 :: x235 :: []), []⟩ W := by
            have HS := Lib.hid hs; clear hs
            have HV := Lib.hid hv; clear hv
            have HPR := Lib.hid hpr; clear hpr
            have Hend := Lib.hid hend; clear hend
            have HXL := Lib.hid hxl; clear hxl
            have HPL := Lib.hid hpl; clear hpl
            have HP2 := Lib.hid hp; clear hp
            have HXJ := Lib.hid hx; clear hx
            have hy0 : x.pts ≤ y.pts := by rcases HPR.out with h | ⟨h, -⟩ <;> omega
            have hy1 : y.pts ≤ x.pts + 1 := by rcases HPR.out with h | ⟨h, -⟩ <;> omega
            have HY : Hid ((xs.set j y)[j]? = some y) := Lib.hid (List.getElem?_set_self (List.getElem?_eq_some_iff.1 HXJ.out).1)
            have HIY := Lib.hid (allP_path (base := baseP B mix bm cm m bs cs sh ba ats (.slice (some ⟨g, 0, none⟩) n gc) ps) HP2.out HY.out)
            have HPT := Lib.hid (points_a HS.out HIY.out)
            have d1 : decide (y.pts < x.pts) = false := by simp; omega
            have hwp : IntKind.i64.wrap (x.pts + 1) = x.pts + 1 := IntWalk.i64_in _ (by omega)
            have d2 : decide (x.pts + 1 < y.pts) = false := by simp; omega
            conv => arg 2; whnf
            go_upto_if 137 with (go_at_call 26; refine HPT.out.mono ?_; rintro e w7 ⟨rfl, rfl⟩)
            go_cut [137] from 124 to 235 (fun _ w8 => Aparts w w8 (allP (baseP B mix bm cm m bs cs sh ba ats (.slice (some ⟨g, 0, none⟩) n gc) ps) ps (xs.set j y)))
            case first =>
              by_cases hpy : x.pts < y.pts
              · have d3 : decide (x.pts < y.pts) = true := by simpa using hpy
                have hrd : ∀ q ∈ y.log.r, m q.a = q.v := by
                  rcases HPR.out with h | h
                  · omega
                  · exact h.2
                have HRD := Lib.hid hrd; clear hrd
                have HFT := Lib.hid (fit_a HS.out HIY.out)
                have HRE := Lib.hid (reads_a HS.out HIY.out)
                go_wp2_with (go_at_call 28; refine HRE.out.mono ?_; rintro e w9 ⟨v, rfl, hrow, hb9, h3⟩; obtain ⟨g9, cap9, rfl, hrr9, hbb9⟩ := hrow.rows; have HR9 := Lib.hid hrr9; have H9 := Lib.hid h3; clear hrow hb9 h3 hrr9 hbb9)
                go_loopw [141] (fun i wr => ∃ k : Nat, k ≤ y.log.r.length ∧ i = .int .i64 k ∧ Below w9.heap.size w9 wr ∧ Aparts w wr (allP (baseP B mix bm cm m bs cs sh ba ats (.slice (some ⟨g, 0, none⟩) n gc) ps) ps (xs.set j y))) (fun i _ => y.log.r.length - (intOf i).toNat)
                case atStart => exact ⟨0, by omega, rfl, Below.refl _ _, H9.out⟩
                case round =>
                  obtain ⟨k, hk9, rfl, hb9, hs9⟩ := hrel
                  have HB9 := Lib.hid hb9; clear hb9
                  have HS9 := Lib.hid hs9; clear hs9
                  have hl9 := HFT.out.2.2.1
                  by_cases hlt9 : k < y.log.r.length
                  · obtain ⟨z, hz⟩ : ∃ z, y.log.r[k]? = some z := ⟨y.log.r[k], List.getElem?_eq_getElem hlt9⟩
                    obtain ⟨qz, cz, rfl, hqz, hrz⟩ := HR9.out.row hz
                    have z0 : wr.cell? ⟨qz, cz + k * 2, none⟩ = some (.int .i64 z.a) := (World.cell?_of_block (a := ⟨qz, cz + k * 2, none⟩) (HB9.out.block qz hqz)).trans (hrz 0 _ rfl)
                    have z1 : wr.cell? ⟨qz, cz + k * 2 + 1, none⟩ = some (.int .u64 z.v) := (World.cell?_of_block (a := ⟨qz, cz + k * 2 + 1, none⟩) (HB9.out.block qz hqz)).trans (hrz 1 _ rfl)
                    have hzm := HRD.out z (List.mem_of_getElem? hz)
                    have HZ := Lib.hid (HFT.out.1 z (List.mem_of_getElem? hz))
                    clear hz hrz
                    have H10 := Lib.hid (HS9.out.idle ((Below.refl _ wr).alloc (Nat.le_refl _) (.cells #[.int .i64 z.a, .int .u64 z.v] 84)))
                    go_wp2_with (refine wpList_mm rfl _ _ rfl bm cm m z.a rfl rfl (mem_a H10.out (allP_base (i := 1) rfl)) HZ.out.1 ?_; intro hw10; clear hw10)
                    go_roundw
                    case rel => exact ⟨k + 1, by omega, by go_num, HB9.out.alloc HB9.out.size _, H10.out⟩
                    case measure => simp [intOf]; omega
                  · obtain rfl : k = y.log.r.length := by omega
                    go_wp2_with fail
                    go_meet
                    case rel => exact HS9.out
              · have d3 : decide (x.pts < y.pts) = false := by simpa using hpy
                go_wp2_with fail
                go_meet
                case rel => exact HS.out
            case rest =>
              clear HS HPT
              have HS := Lib.hid hcut; clear hcut
              have HFT := Lib.hid (fit_a HS.out HIY.out)
              have HWR := Lib.hid (writing_a HS.out HIY.out)
              go_upto_region 33 with fail
              go_cut [16, 158] from 124 to 235 (fun s16 s wx => s16 = .bool x.writing ∧ s = .bool (y.writing && !x.writing) ∧ Aparts w wx (allP (baseP B mix bm cm m bs cs sh ba ats (.slice (some ⟨g, 0, none⟩) n gc) ps) ps (xs.set j y)))
              case first =>
                cases hyw : y.writing <;> cases hxw : x.writing
                all_goals rw [hyw] at HWR
                all_goals go_wp2_with (go_at_call 27; refine HWR.out.mono ?_; rintro e w7 ⟨rfl, rfl⟩)
                all_goals go_meet
                all_goals (case rel => exact ⟨by rw [hxw], by rw [hyw, hxw]; rfl, HS.out⟩)
              case rest =>
              obtain ⟨rfl, rfl, hcut2⟩ := hcut
              clear HS HWR
              have HS := Lib.hid hcut2; clear hcut2
              have HWS := Lib.hid (writes_a HS.out HIY.out)
              go_upto_if 158 with fail
              go_cut [158] from 124 to 235 (fun _ w8 => ∃ cs' : Nat, cs' ≤ cs + 128 ∧ Aparts w w8 (allP (baseP B mix bm cm m bs cs' (if y.writing = true ∧ x.writing = false then putL sh y.log.w else sh) ba ats (.slice (some ⟨g, 0, none⟩) n gc) ps) ps (xs.set j y)))
              case first =>
                by_cases hc : y.writing = true ∧ x.writing = false
                · have d9 : (y.writing && !x.writing) = true := by rw [hc.1, hc.2]; rfl
                  rw [d9]
                  have HC := Lib.hid hc; clear hc
                  have hbs := (mem_a HS.out (allP_base (i := 2) rfl)).lt
                  go_wp2_with (go_at_call 29; refine HWS.out.mono ?_; rintro e w9 ⟨v, rfl, hrow, hb9, h3⟩; have hlt := fun g e => (owns_lt hrow (g := g) e).1; obtain ⟨g9, cap9, rfl, hrr9, hbb9⟩ := hrow.rows; have HR9 := Lib.hid hrr9; have H9 := Lib.hid h3; have HBB := Lib.hid (show ∀ q c, g9 = some ⟨q, c, none⟩ → q ≠ bs from fun q c e => hbb9.elim (fun h => by rw [h] at e; cases e) (fun ⟨g', h, h2⟩ => by rw [h] at e; cases e; have := hlt _ h2; omega)); clear hrow hb9 h3 hrr9 hbb9 hlt)
                  go_loopw [162] (fun i wr => ∃ k : Nat, k ≤ y.log.w.length ∧ i = .int .i64 k ∧ Tch (fun k => k = bs) w9 wr ∧ Aparts w wr (allP (baseP B mix bm cm m bs (cs + k) (putL sh (y.log.w.take k)) ba ats (.slice (some ⟨g, 0, none⟩) n gc) ps) ps (xs.set j y))) (fun i _ => y.log.w.length - (intOf i).toNat)
                  case atStart => exact ⟨0, by omega, rfl, Tch.refl _ _, H9.out⟩
                  case round =>
                    obtain ⟨k, hk9, rfl, hb9, hs9⟩ := hrel
                    have HB9 := Lib.hid hb9; clear hb9
                    have HS9 := Lib.hid hs9; clear hs9
                    have hl9 := HFT.out.2.2.2
                    by_cases hlt9 : k < y.log.w.length
                    · obtain ⟨z, hz⟩ : ∃ z, y.log.w[k]? = some z := ⟨y.log.w[k], List.getElem?_eq_getElem hlt9⟩
                      obtain ⟨qz, cz, rfl, hqz, hrz⟩ := HR9.out.row hz
                      have hqb := HBB.out qz cz rfl
                      have z0 : wr.cell? ⟨qz, cz + k * 2, none⟩ = some (.int .i64 z.a) := (World.cell?_of_block (a := ⟨qz, cz + k * 2, none⟩) (HB9.out.block qz hqz hqb)).trans (hrz 0 _ rfl)
                      have z1 : wr.cell? ⟨qz, cz + k * 2 + 1, none⟩ = some (.int .u64 z.v) := (World.cell?_of_block (a := ⟨qz, cz + k * 2 + 1, none⟩) (HB9.out.block qz hqz hqb)).trans (hrz 1 _ rfl)
                      have HZ := Lib.hid (HFT.out.2.1 z (List.mem_of_getElem? hz))
                      have HTK := Lib.hid (show putL sh (y.log.w.take (k + 1)) = upd (putL sh (y.log.w.take k)) z.a z.v by rw [tk_succ hz, putL_snoc])
                      clear hz hrz
                      have H10 := Lib.hid (HS9.out.idle ((Below.refl _ wr).alloc (Nat.le_refl _) (.cells #[.int .i64 z.a, .int .u64 z.v] 84)))
                      have HB10 := Lib.hid (HB9.out.alloc (.cells #[.int .i64 z.a, .int .u64 z.v] 84))
                      go_wp2_with (refine wpList_mput rfl _ _ _ (.inl rfl) bs (cs + k) _ z.a z.v rfl rfl rfl (mem_a H10.out (allP_base (i := 2) rfl)) HZ.out.1 HZ.out.2 (by omega) ?_; intro w5 h5 ht5; have H11 := Lib.hid (mem_turn H10.out (allP_base (i := 2) rfl) h5 ht5 (allP_setB (by show 2 < 5; omega))); have HB11 := Lib.hid (HB10.out.trans ht5); clear h5 ht5)
                      go_roundw
                      case rel => exact ⟨k + 1, by omega, by go_num, HB11.out, by rw [HTK.out]; exact H11.out⟩
                      case measure => simp [intOf]; omega
                    · obtain rfl : k = y.log.w.length := by omega
                      go_wp2_with fail
                      go_meet
                      case rel => exact ⟨cs + y.log.w.length, by omega, by have h := HS9.out; rw [List.take_length] at h; rw [if_pos HC.out]; exact h⟩
                · have d9 : (y.writing && !x.writing) = false := by
                    cases h1 : y.writing <;> cases h2 : x.writing <;> first | rfl | exact absurd ⟨h1, h2⟩ hc
                  rw [d9]
                  have HC := Lib.hid hc; clear hc
                  go_wp2_with fail
                  go_meet
                  case rel => exact ⟨cs, by omega, by rw [if_neg HC.out]; exact HS.out⟩
              case rest =>
                clear HS HWS
                obtain ⟨cs', hcs', hs'⟩ := hcut
                have HS := Lib.hid hs'; clear hs'
                go_step
                refine sh_end _ _ _ _ _ _ _ _ _ _ _ _ _ _ _ _ _ _ _ _ _ _ _ _ _ _ _ _ _ _ _ _ _ _ _ _ _ _ _ _ _ _ _ _ _ _ _ _ _ _ _ _ _ _ _ _ _ _ _ _ _ _ _ _ _ _ _ _ _ _ _ _ _ _ _ _ _ _ _ _ _ _ _ _ _ _ _ _ _ _ _ _ _ _ _ _ _ _ _ _ _ _ _ _ _ _ _ _ _ _ _ _ _ _ _ _ _ _ _ _ _ _ _ _ _ _ _ _ _ _ _ _ _ _ _ _ _ _ _ _ _ _ _ _ _ _ _ _ _ _ _ _ _ _ _ _ _ _ _ _ _ _ _ _ _ _ _ _ _ _ _ _ _ _ _ _ _ _ _ _ _ _ _ _ _ _ _ _ _ _ _ _ _ _ _ _ _ _ _ _ _ _ _ _ _ _ _ _ _ _ _ _ _ _ _ _ _ _ _ _ _ _ _ _ _ _ _ _ _ _ _ _ HV.out (by rw [List.length_set]; exact HXL.out) HPL.out hn hm HS.out ?_
                intro u4 u24 u25 u26 u27 u28 u172 u173 u174 u175 u176 u177 u178 u179 u180 u181 u182 u183 u184 u185 u186 u187 u188 u189 u190 u191 u192 u193 u194 u195 u196 u197 u198 u199 u200 u201 u202 u203 u204 u205 u206 u207 u208 u209 u210 u211 u212 u213 u214 u215 u216 u217 u218 u219 u220 u221 u222 u223 u224 u225 u226 u227 u228 u229 u230 u231 u232 u233 u234 u235
                exact Hend.out _ _ _ _ _ _ _ _ _ _ _ _ _ _ _ _ _ _ _ _ _ _ _ _ _ _ _ _ _ _ _ _ _ _ _ _ _ _ _ _ _ _ _ _ _ _ _ _ _ _ _ _ _ _ _ _ _ _ _ _ _ _ _ _ _ _ _ _ _ _ _ _ _ _ _ _ _ _ _ _ _ _ _ _ _ _ _ _ _ _ _ _ _ _ _ _ _ _ _ _ _ _ _ _ _ _ _ _ _ _ _ _ _ _ _ _ _ _ _ _ _ _ cs' hcs' HS.out

end Go.Proofs.Ytgdfiggloifncaa
