/- SoftPoints: the end of a turn. Conditions: those stated in each theorem. -/
import Derived.Test.YtgdfiggloifncaaSoftPx
import Derived.Test.YtgdfiggloifncaaSoftL
import Derived.Deep.CutBlock
namespace Go.Proofs.Ytgdfiggloifncaa
open Go.RowKit Go.BigFrame Go.Maps Go.ChangeMaps

set_option maxRecDepth 100000 in
set_option maxHeartbeats 8000000 in
theorem sh_end {w W : World} {B n bm cm bs cs ba g gc : Nat} {mix : List Value} {m sh : Int → Int} {ats : List Int} {ps : List Nat} {xs : List PV} (x0 x1 x2 x3 x4 x10 x11 x12 x13 x14 x15 x16 x17 x18 x19 x20 x21 x22 x23 x24 x25 x26 x27 x28 x29 x30 x31 x32 x33 x34 x35 x36 x37 x38 x39 x40 x41 x42 x43 x44 x45 x46 x47 x48 x49 x50 x51 x52 x53 x54 x55 x56 x57 x58 x59 x60 x61 x62 x63 x64 x65 x66 x67 x68 x69 x70 x71 x72 x73 x74 x75 x76 x77 x78 x79 x80 x81 x82 x83 x84 x85 x86 x87 x88 x89 x90 x91 x92 x93 x94 x95 x96 x97 x98 x99 x100 x101 x102 x103 x104 x105 x106 x107 x108 x109 x110 x111 x112 x113 x114 x115 x116 x117 x118 x119 x120 x121 x122 x123 x124 x125 x126 x127 x128 x129 x130 x131 x132 x133 x134 x135 x136 x137 x138 x139 x140 x141 x142 x143 x144 x145 x146 x147 x148 x149 x150 x151 x152 x153 x154 x155 x156 x157 x158 x159 x160 x161 x162 x163 x164 x165 x166 x167 x168 x169 x170 x171 x172 x173 x174 x175 x176 x177 x178 x179 x180 x181 x182 x183 x184 x185 x186 x187 x188 x189 x190 x191 x192 x193 x194 x195 x196 x197 x198 x199 x200 x201 x202 x203 x204 x205 x206 x207 x208 x209 x210 x211 x212 x213 x214 x215 x216 x217 x218 x219 x220 x221 x222 x223 x224 x225 x226 x227 x228 x229 x230 x231 x232 x233 x234 x235 : Value) (Q0 : Exit → Act → World → Prop)
    (hv : Inv xs m sh) (hxl : xs.length = n) (hpl : ps.length = n) (hn : 1 ≤ n ∧ n ≤ 3) (hm : 0 ≤ m 0 ∧ m 0 ≤ 1000000)
    (hs : Aparts w W (allP (baseP B mix bm cm m bs cs sh ba ats (.slice (some ⟨g, 0, none⟩) n gc) ps) ps xs))
    (hend : ∀ (u4 u24 u25 u26 u27 u28 u172 u173 u174 u175 u176 u177 u178 u179 u180 u181 u182 u183 u184 u185 u186 u187 u188 u189 u190 u191 u192 u193 u194 u195 u196 u197 u198 u199 u200 u201 u202 u203 u204 u205 u206 u207 u208 u209 u210 u211 u212 u213 u214 u215 u216 u217 u218 u219 u220 u221 u222 u223 u224 u225 u226 u227 u228 u229 u230 u231 u232 u233 u234 u235 : Value), Q0 .normal ⟨List.toArray (x0 :: x1 :: x2 :: x3 :: u4 :: .int .i64 6 :: .map (some bm) :: .map (some bs) :: .int .i64 (n : Int) :: .slice (some ⟨g, 0, none⟩) n gc :: x10 :: x11 :: x12 :: x13 :: x14 :: x15 :: x16 :: x17 :: x18 :: x19 :: x20 :: x21 :: x22 :: x23 :: u24 :: u25 :: u26 :: u27 :: u28 :: x29 :: x30 :: x31 :: x32 :: x33 :: x34 :: x35 :: x36 :: x37 :: x38 :: x39 :: x40 :: x41 :: x42 :: x43 :: x44 :: x45 :: x46 :: x47 :: x48 :: x49 :: x50 :: x51 :: x52 :: x53 :: x54 :: x55 :: x56 :: x57 :: x58 :: x59 :: x60 :: x61 :: x62 :: x63 :: x64 :: x65 :: x66 :: x67 :: x68 :: x69 :: x70 :: x71 :: x72 :: x73 :: x74 :: x75 :: x76 :: x77 :: x78 :: x79 :: x80 :: x81 :: x82 :: x83 :: x84 :: x85 :: x86 :: x87 :: x88 :: x89 :: x90 :: x91 :: x92 :: x93 :: x94 :: x95 :: x96 :: x97 :: x98 :: x99 :: x100 :: x101 :: x102 :: x103 :: x104 :: x105 :: x106 :: x107 :: x108 :: x109 :: x110 :: x111 :: x112 :: x113 :: x114 :: x115 :: x116 :: x117 :: x118 :: x119 :: x120 :: x121 :: x122 :: x123 :: x124 :: x125 :: x126 :: x127 :: x128 :: x129 :: x130 :: x131 :: x132 :: x133 :: x134 :: x135 :: x136 :: x137 :: x138 :: x139 :: x140 :: x141 :: x142 :: x143 :: x144 :: x145 :: x146 :: x147 :: x148 :: x149 :: x150 :: x151 :: x152 :: x153 :: x154 :: x155 :: x156 :: x157 :: x158 :: x159 :: x160 :: x161 :: x162 :: x163 :: x164 :: x165 :: x166 :: x167 :: x168 :: x169 :: x170 :: x171 :: u172 :: u173 :: u174 :: u175 :: u176 :: u177 :: u178 :: u179 :: u180 :: u181 :: u182 :: u183 :: u184 :: u185 :: u186 :: u187 :: u188 :: u189 :: u190 :: u191 :: u192 :: u193 :: u194 :: u195 :: u196 :: u197 :: u198 :: u199 :: u200 :: u201 :: u202 :: u203 :: u204 :: u205 :: u206 :: u207 :: u208 :: u209 :: u210 :: u211 :: u212 :: u213 :: u214 :: u215 :: u216 :: u217 :: u218 :: u219 :: u220 :: u221 :: u222 :: u223 :: u224 :: u225 :: u226 :: u227 :: u228 :: u229 :: u230 :: u231 :: u232 :: u233 :: u234 :: u235 :: []), []⟩ W) :
    Code.wp Try.prog shEnd Q0 ⟨List.toArray (x0 :: x1 :: x2 :: x3 :: x4 :: .int .i64 6 :: .map (some bm) :: .map (some bs) :: .int .i64 (n : Int) :: .slice (some ⟨g, 0, none⟩) n gc :: x10 :: x11 :: x12 :: x13 :: x14 :: x15 :: x16 :: x17 :: x18 :: x19 :: x20 :: x21 :: x22 :: x23 :: x24 :: x25 :: x26 :: x27 :: x28 :: x29 :: x30 :: x31 :: x32 :: x33 :: x34 :: x35 :: x36 :: x37 :: x38 :: x39 :: x40 :: x41 :: x42 :: x43 :: x44 :: x45 :: x46 :: x47 :: x48 :: x49 :: x50 :: x51 :: x52 :: x53 :: x54 :: x55 :: x56 :: x57 :: x58 :: x59 :: x60 :: x61 :: x62 :: x63 :: x64 :: x65 :: x66 :: x67 :: x68 :: x69 :: x70 :: x71 :: x72 :: x73 :: x74 :: x75 :: x76 :: x77 :: x78 :: x79 :: x80 :: x81 :: x82 :: x83 :: x84 :: x85 :: x86 :: x87 :: x88 :: x89 :: x90 :: x91 :: x92 :: x93 :: x94 :: x95 :: x96 :: x97 :: x98 :: x99 :: x100 :: x101 :: x102 :: x103 :: x104 :: x105 :: x106 :: x107 :: x108 :: x109 :: x110 :: x111 :: x112 :: x113 :: x114 :: x115 :: x116 :: x117 :: x118 :: x119 :: x120 :: x121 :: x122 :: x123 :: x124 :: x125 :: x126 :: x127 :: x128 :: x129 :: x130 :: x131 :: x132 :: x133 :: x134 :: x135 :: x136 :: x137 :: x138 :: x139 :: x140 :: x141 :: x142 :: x143 :: x144 :: x145 :: x146 :: x147 :: x148 :: x149 :: x150 :: x151 :: x152 :: x153 :: x154 :: x155 :: x156 :: x157 :: x158 :: x159 :: x160 :: x161 :: x162 :: x163 :: x164 :: x165 :: x166 :: x167 :: x168 :: x169 :: x170 :: x171 :: x172 :: x173 :: x174 :: x175 :: x176 :: x177 :: x178 :: x179 :: x180 :: x181 :: x182 :: x183 :: x184 :: x185 :: x186 :: x187 :: x188 :: x189 :: x190 :: x191 :: x192 :: x193 :: x194 :: x195 :: x196 :: x197 :: x198 :: x199 :: x200 :: x201 :: x202 :: x203 :: x204 :: x205 :: x206 :: x207 :: x208 :: x209 :: x210 :: x211 :: x212 :: x213 :: x214 :: x215 :: x216 :: x217 :: x218 :: x219 :: x220 :: x221 :: x222 :: x223 :: x224 :: x225 :: x226 :: x227 :: x228 :: x229 :: x230 :: x231 :: x232 :: x233 :: x234 :: x235 :: []), []⟩ W := by
  have HV := Lib.hid hv; clear hv
  have HS := Lib.hid hs; clear hs
  have Hend := Lib.hid hend; clear hend
  have HL := Lib.hid hxl; clear hxl
  have HP := Lib.hid hpl; clear hpl
  conv => arg 2; whnf
  go_wp2_with fail
  go_loopw [24, 25, 26, 27] (fun s1 s2 b i wr => wr = W ∧ ∃ k : Nat, k ≤ n ∧ i = .int .i64 k ∧ s1 = .int .i64 ((xs.take k).map PV.wr).sum ∧ s2 = .int .u64 ((xs.take k).map PV.lv).sum ∧ b = .bool ((xs.take k).any PV.busy)) (fun _ _ _ i _ => n - (intOf i).toNat)
  case atStart => exact ⟨rfl, 0, by omega, rfl, rfl, rfl, rfl⟩
  case round =>
    obtain ⟨rfl, k, hk, rfl, rfl, rfl, rfl⟩ := hrel
    by_cases hlt : k < n
    · obtain ⟨x, hx⟩ : ∃ x, xs[k]? = some x := ⟨xs[k]'(by rw [HL.out]; exact hlt), List.getElem?_eq_getElem _⟩
      obtain ⟨p, hp⟩ : ∃ p, ps[k]? = some p := ⟨ps[k]'(by rw [HP.out]; exact hlt), List.getElem?_eq_getElem _⟩
      have hsw := sum_take PV.wr hx
      have hsl := sum_take PV.lv hx
      have hsb := any_take PV.busy hx
      have hb1 := sum_few PV.wr wr_01 (xs.take k)
      have hb2 := sum_few PV.lv lv_01 (xs.take k)
      have hlk : (xs.take k).length ≤ 3 := by rw [List.length_take]; omega
      obtain ⟨a1, ha1⟩ : ∃ a, ((xs.take k).map PV.wr).sum = a := ⟨_, rfl⟩
      obtain ⟨a2, ha2⟩ : ∃ a, ((xs.take k).map PV.lv).sum = a := ⟨_, rfl⟩
      obtain ⟨a3, ha3⟩ : ∃ a, (xs.take k).any PV.busy = a := ⟨_, rfl⟩
      rw [ha1] at hsw hb1 ⊢
      rw [ha2] at hsl hb2 ⊢
      rw [ha3] at hsb ⊢
      have hw1 : IntKind.i64.wrap (a1 + 1) = a1 + 1 := IntWalk.i64_in _ (by omega)
      have hw2 : IntKind.u64.wrap (a2 + 1) = a2 + 1 := IntWalk.u64_in _ (by omega)
      have cp : wr.cell? ⟨g, k, none⟩ = some (.pointer (some ⟨p, 0, none⟩)) := by
        have h1 := valP_row HS.out (allP_base (i := 4) rfl)
        have h2 := val_at h1 (k := k) (x := ptV p) (by rw [List.getElem?_map, hp]; rfl) 0 _ rfl
        simpa [ptV] using h2
      have HIX := Lib.hid (allP_path (base := baseP B mix bm cm m bs cs sh ba ats (.slice (some ⟨g, 0, none⟩) n gc) ps) hp hx)
      have HWR := Lib.hid (writing_a HS.out HIX.out)
      have HLI := Lib.hid (live_a HS.out HIX.out)
      have HBU := Lib.hid (busy_a HS.out HIX.out)
      have HSW := Lib.hid hsw; clear hsw
      have HSL := Lib.hid hsl; clear hsl
      have HSB := Lib.hid hsb; clear hsb
      clear ha1 ha2 ha3 hx hp
      have e1 : x.wr = if x.writing = true then 1 else 0 := rfl
      have e2 : x.lv = if x.live = true then 1 else 0 := rfl
      rw [e1] at HSW
      rw [e2] at HSL
      clear e1 e2
      cases hxw : x.writing <;> cases hxl : x.live <;> cases a3
      all_goals
        rw [hxw] at HWR HSW
        rw [hxl] at HLI HSL
        go_wp2_with (first | (go_at_call 27; refine HWR.out.mono ?_; rintro e w7 ⟨rfl, rfl⟩) | (go_at_call 24; refine HLI.out.mono ?_; rintro e w7 ⟨rfl, rfl⟩) | (go_at_call 23; refine HBU.out.mono ?_; rintro e w7 ⟨rfl, rfl⟩))
        go_roundw
        case rel => exact ⟨trivial, k + 1, by omega, by go_num, by rw [HSW.out]; simp, by rw [HSL.out]; simp, by rw [HSB.out]; simp⟩
        case measure => simp [intOf]; omega
    · obtain rfl : k = n := by omega
      have hal : xs.take k = xs := List.take_of_length_le (by rw [HL.out]; exact Nat.le_refl _)
      rw [hal]
      have hws := HV.out.writes
      have hwp := (sum_few PV.wr wr_01 xs).1
      have HCN := Lib.hid HV.out.count'
      have HRS := Lib.hid HV.out.rest
      obtain ⟨a1, ha1⟩ : ∃ a, (xs.map PV.wr).sum = a := ⟨_, rfl⟩
      obtain ⟨a2, ha2⟩ : ∃ a, (xs.map PV.lv).sum = a := ⟨_, rfl⟩
      obtain ⟨a3, ha3⟩ : ∃ a, xs.any PV.busy = a := ⟨_, rfl⟩
      rw [ha1] at hws hwp HRS ⊢
      rw [ha2] at HCN ⊢
      rw [ha3] at HCN ⊢
      clear ha1 ha2 ha3
      obtain ⟨hw1, hw2⟩ := hws
      have d1 : decide (1 < a1) = false := by simp; omega
      have cv : IntKind.u64.wrap a1 = a1 := IntWalk.u64_in _ (by omega)
      have hmd : (m 0).tmod 2 = a1 := by rw [Int.tmod_eq_emod_of_nonneg hm.1]; exact hw2
      have hmw : IntKind.u64.wrap ((m 0).tmod 2) = a1 := by rw [hmd]; exact cv
      have hbeq : (a1 == a1) = true := by simp
      have HMM := Lib.hid (mem_a HS.out (allP_base (i := 1) rfl))
      have HMS := Lib.hid (mem_a HS.out (allP_base (i := 2) rfl))
      cases a3
      · have hc := HCN.out rfl
        go_wp2_with (first | (refine wpList_mm_wanted rfl _ _ rfl bm cm m 0 rfl rfl HMM.out (i64_lit (by omega)) ?_) | (refine wpList_mm_wanted rfl _ _ rfl bm cm m 1 rfl rfl HMM.out (i64_lit (by omega)) ?_))
        go_loopw [28] (fun i wr' => wr' = wr ∧ ∃ j : Nat, j ≤ 6 ∧ i = .int .i64 (8 + (j : Int))) (fun i _ => 14 - (intOf i).toNat)
        case atStart => exact ⟨rfl, 0, by omega, rfl⟩
        case round =>
          obtain ⟨rfl, j, hj, rfl⟩ := hrel
          have hwj : IntKind.i64.wrap (8 + (j : Int) + 1) = 8 + ((j + 1 : Nat) : Int) := by rw [IntKind.wrap_i64]; omega
          by_cases hlj : j < 6
          · have dj : decide (8 + (j : Int) < 14) = true := by simp; omega
            by_cases hz : a1 = 0
            · subst hz
              have heq := HRS.out rfl (8 + (j : Int)) (by omega)
              have hbe : (m (8 + (j : Int)) == sh (8 + (j : Int))) = true := by rw [heq]; simp
              have HHQ := Lib.hid heq; clear heq
              go_wp2_with (first | (at_lookup; refine wpList_mm rfl _ _ rfl bm cm m (8 + (j : Int)) rfl rfl HMM.out (i64_lit (by omega)) ?_; intro hw10; clear hw10) | (at_lookup; refine wpList_mm rfl _ _ rfl bs cs sh (8 + (j : Int)) rfl rfl HMS.out (i64_lit (by omega)) ?_; intro hw10; clear hw10))
              go_roundw
              case rel => exact ⟨trivial, j + 1, by omega, by go_num⟩
              case measure => simp [intOf]; omega
            · have dz : (a1 == 0) = false := by simpa using hz
              go_wp2_with fail
              exact Hend.out _ _ _ _ _ _ _ _ _ _ _ _ _ _ _ _ _ _ _ _ _ _ _ _ _ _ _ _ _ _ _ _ _ _ _ _ _ _ _ _ _ _ _ _ _ _ _ _ _ _ _ _ _ _ _ _ _ _ _ _ _ _ _ _ _ _ _ _ _ _
          · have dj : decide (8 + (j : Int) < 14) = false := by simp; omega
            go_wp2_with fail
            exact Hend.out _ _ _ _ _ _ _ _ _ _ _ _ _ _ _ _ _ _ _ _ _ _ _ _ _ _ _ _ _ _ _ _ _ _ _ _ _ _ _ _ _ _ _ _ _ _ _ _ _ _ _ _ _ _ _ _ _ _ _ _ _ _ _ _ _ _ _ _ _ _
      · go_wp2_with (first | (refine wpList_mm_wanted rfl _ _ rfl bm cm m 0 rfl rfl HMM.out (i64_lit (by omega)) ?_))
        go_loopw [28] (fun i wr' => wr' = wr ∧ ∃ j : Nat, j ≤ 6 ∧ i = .int .i64 (8 + (j : Int))) (fun i _ => 14 - (intOf i).toNat)
        case atStart => exact ⟨rfl, 0, by omega, rfl⟩
        case round =>
          obtain ⟨rfl, j, hj, rfl⟩ := hrel
          have hwj : IntKind.i64.wrap (8 + (j : Int) + 1) = 8 + ((j + 1 : Nat) : Int) := by rw [IntKind.wrap_i64]; omega
          by_cases hlj : j < 6
          · have dj : decide (8 + (j : Int) < 14) = true := by simp; omega
            by_cases hz : a1 = 0
            · subst hz
              have heq := HRS.out rfl (8 + (j : Int)) (by omega)
              have hbe : (m (8 + (j : Int)) == sh (8 + (j : Int))) = true := by rw [heq]; simp
              have HHQ := Lib.hid heq; clear heq
              go_wp2_with (first | (at_lookup; refine wpList_mm rfl _ _ rfl bm cm m (8 + (j : Int)) rfl rfl HMM.out (i64_lit (by omega)) ?_; intro hw10; clear hw10) | (at_lookup; refine wpList_mm rfl _ _ rfl bs cs sh (8 + (j : Int)) rfl rfl HMS.out (i64_lit (by omega)) ?_; intro hw10; clear hw10))
              go_roundw
              case rel => exact ⟨trivial, j + 1, by omega, by go_num⟩
              case measure => simp [intOf]; omega
            · have dz : (a1 == 0) = false := by simpa using hz
              go_wp2_with fail
              exact Hend.out _ _ _ _ _ _ _ _ _ _ _ _ _ _ _ _ _ _ _ _ _ _ _ _ _ _ _ _ _ _ _ _ _ _ _ _ _ _ _ _ _ _ _ _ _ _ _ _ _ _ _ _ _ _ _ _ _ _ _ _ _ _ _ _ _ _ _ _ _ _
          · have dj : decide (8 + (j : Int) < 14) = false := by simp; omega
            go_wp2_with fail
            exact Hend.out _ _ _ _ _ _ _ _ _ _ _ _ _ _ _ _ _ _ _ _ _ _ _ _ _ _ _ _ _ _ _ _ _ _ _ _ _ _ _ _ _ _ _ _ _ _ _ _ _ _ _ _ _ _ _ _ _ _ _ _ _ _ _ _ _ _ _ _ _ _

end Go.Proofs.Ytgdfiggloifncaa
