/- Loops. Conditions: those stated in each theorem. -/
import Derived.Test.YtehnailokgoekaaDoorFlwM
namespace Go.Proofs.YtehnailokgoekaaDoor
open Go.RowKit Go.BigFrame Go.Shelf

open Classical in
noncomputable def domB2 (ps : List Pt) (i j : Nat) : Bool := if Rch ps (-1) j ∧ ¬ Rch ps i j then true else false
theorem domB2_iff {ps : List Pt} {i j : Nat} : domB2 ps i j = true ↔ Rch ps (-1) j ∧ ¬ Rch ps i j := by unfold domB2; split <;> simp_all
/-- What is read of the rows. -/
theorem DmS.cellD {W : World} {ps : List Pt} {ga gr : Nat} {all : List Bool} {bs : List Nat} {V : World} (h : DmS W ps ga gr ps.length all bs V) {i j : Nat} (hi : i < ps.length) (hj : j < ps.length) :
    V.cell? ⟨gr, i, none⟩ = some (.slice (some ⟨bs.getD i 0, 0, none⟩) ps.length ps.length) ∧ V.cell? ⟨bs.getD i 0, j, none⟩ = some (.bool (domB2 ps i j)) := by
  have hib : i < bs.length := by rw [h.len]; exact hi
  have hb : bs[i]? = some (bs.getD i 0) := by simp [List.getD, hib]
  obtain ⟨-, -, d, hd, hh⟩ := h.made i _ hb
  refine ⟨h.rows.cell (by rw [List.getElem?_append_left (by simp [h.len]; exact hi), List.getElem?_map, hb]; rfl), hh.cell ?_⟩
  have : isAt d j = domB2 ps i j := by rw [Bool.eq_iff_iff, hd.2, domB2_iff]
  rw [cellsB, List.getElem?_map, isAt_get (by rw [hd.1]; exact hj), this]; rfl

def cells2 (l : List (Nat × Nat)) : List Value := l.flatMap fun x => [.int .i64 (x.1 : Nat), .int .i64 (x.2 : Nat)]
/-- A part's pairs, of those that come behind it. -/
noncomputable def pairsP (ps : List Pt) (n : Nat) (nx : List Nat) : List (Nat × Nat) := (nx.filter fun m => domB2 ps m n).map fun m => (n, m)
noncomputable def loopsTo (ps : List Pt) (k : Nat) : List (Nat × Nat) := (List.range k).flatMap fun n => pairsP ps n (nxOf ps n)
theorem loopsTo_succ (ps : List Pt) (k : Nat) : loopsTo ps (k + 1) = loopsTo ps k ++ pairsP ps k (nxOf ps k) := by simp [loopsTo, List.range_succ]
theorem pairs_next {ps : List Pt} {n k m : Nat} {nx : List Nat} (h : nx[k]? = some m) : pairsP ps n (nx.take (k + 1)) = pairsP ps n (nx.take k) ++ if domB2 ps m n then [(n, m)] else [] := by
  unfold pairsP
  rw [List.take_add_one, h, List.filter_append, List.map_append]
  simp only [Option.toList_some, List.filter_cons, List.filter_nil]
  split <;> simp
theorem Tryd.infoP2 : (Tryd.prog.info? 47).map (fun i => (i.zero, i.size, i.bytes)) = some (some (.agg #[.int .i64 0, .int .i64 0]), 2, 16) := by kernel_rfl
noncomputable def appP (xs : Array Value) : Sem Value := Builtin.append_ #[42, 42] 42 xs
theorem appP_eq (xs : Array Value) : Builtin.append_ #[42, 42] 42 xs = appP xs := rfl
theorem appP_own (base : Nat) (v : Value) (n : Nat) (xs : List Value) (x y : Int) (W : World) (hown : W.ownsRow base 47 2 v n xs) (hn : n ≤ 1000000) (hb : base ≤ W.heap.size) :
    ∃ g cap w', (appP #[v, .slice (some ⟨W.heap.size, 0, none⟩) 1 1]).run Tryd.prog (W.alloc (.cells #[.int .i64 x, .int .i64 y] 47)) = .ok (.slice (some ⟨g, 0, none⟩) (n + 1) cap) w' ∧ w'.ownsRow base 47 2 (.slice (some ⟨g, 0, none⟩) (n + 1) cap) (n + 1) (xs ++ [.int .i64 x, .int .i64 y]) ∧ (W.alloc (.cells #[.int .i64 x, .int .i64 y] 47)).grownBy w' v.ownBlock := by
  obtain ⟨i0, hi, hz0, hz1, hz2⟩ := flw_info Tryd.infoP2
  obtain ⟨v', w', h1, h2, h3, -⟩ := run_append_own (P := Tryd.prog) (w := W.alloc (.cells #[.int .i64 x, .int .i64 y] 47)) base 42 42 47 i0 (.agg #[.int .i64 0, .int .i64 0]) 2 16 Tryd.underlying42 hi hz0 hz1 hz2 rfl (by decide) v n xs (hown.alloc _) ⟨W.heap.size, 0, none⟩ 1 1 [.int .i64 x, .int .i64 y] rfl (World.news_of_block (t := 47) (fr := (0, 0)) (new_block W _)) (by simp [Value.oneCell']) (by unfold maxLen; omega) (by omega) (by simp; omega)
  obtain ⟨g, cap, rfl, -, -⟩ := h2.form (by omega)
  exact ⟨g, cap, w', h1, h2, h3⟩
attribute [local go_sem ↓ high] appP_eq
theorem pairs_len (ps : List Pt) (n : Nat) (nx : List Nat) : (pairsP ps n nx).length ≤ nx.length := by unfold pairsP; rw [List.length_map]; exact List.length_filter_le _ _
theorem loops_len {ps : List Pt} (h : ∀ p ∈ ps, p.nx.length ≤ 2) : ∀ k, (loopsTo ps k).length ≤ 2 * k
  | 0 => by simp [loopsTo]
  | k + 1 => by
    rw [loopsTo_succ, List.length_append]
    have h1 := loops_len h k
    have h2 := pairs_len ps k (nxOf ps k)
    have h3 : (nxOf ps k).length ≤ 2 := by
      unfold nxOf
      split
      · simp
      · exact h _ (List.mem_of_getElem? ‹_›)
    omega

set_option maxRecDepth 100000 in
set_option maxHeartbeats 1000000 in
theorem loops_any (a : Option Addr) (cap : Nat) (c : List In) (hn : c.length ≤ 1024) (hi : ∀ i ∈ c, I64 i.imm) (w : World) (hF : FormsAt w) (hr : RowsIn w a 5 In.cells c) :
    Calls Tryd.prog 12 #[.slice a c.length cap] w fun e w' => ∃ v, e = .returned (.tuple #[v, .int .i64 0]) ∧ w'.ownsRow w.heap.size 47 2 v (loopsTo (partsP c) (partsP c).length).length (cells2 (loopsTo (partsP c) (partsP c).length)) ∧ Below w.heap.size w w' := by
  have HP := Lib.hid (parts_any a cap c hn hi w hF hr)
  have Hn := Lib.hid hn; clear hn hi hF hr
  go_enter Tryd.func12, Tryd.ntmps12
  go_wp2_with fail
  refine HP.out.mono ?_
  rintro e w2 ⟨v, rfl, h1, h2⟩
  have hpl : (partsP c).length ≤ 1024 := by rw [parts_len]; exact Nat.le_trans (begs_le c) Hn.out
  have HR := Lib.hid (dominates_any (partsP c) w.heap.size v w2 h1 (parts_nxok c) (parts_nx2 c) hpl)
  have H2 := Lib.hid (And.intro h1 (And.intro h2 hpl)); clear h1 h2 HP hpl
  go_wp2_with fail
  refine HR.out.mono ?_
  rintro e w3 ⟨gr, ga, all, bs, rfl, hg, hd⟩
  have hp3 := H2.out.1.below hd.below
  obtain ⟨ad, vc, rfl, hs⟩ := hp3.form
  have H3 := Lib.hid (And.intro hd (And.intro hp3 (H2.out.2.1.trans (hd.below.mono H2.out.2.1.size)))); clear hd hp3 hg HR
  have Hs := Lib.hid hs; clear hs
  have Hk := Lib.hid (And.intro (parts_nxok c) (parts_nx2 c))
  generalize hps : partsP c = ps at *
  have Hps := Lib.hid hps; clear hps
  go_wp2_with fail
  go_loopw [7, 24] (fun s7 s24 V => ∃ n : Nat, s24 = .int .i64 n ∧ n ≤ ps.length ∧ V.ownsRow w3.heap.size 47 2 s7 (loopsTo ps n).length (cells2 (loopsTo ps n)) ∧ Below w3.heap.size w3 V) (fun _ s24 _ => ps.length - (intOf s24).toNat)
  case atStart => exact ⟨0, rfl, Nat.zero_le _, World.ownsRow_nil _ _ _ _, Below.refl _ _⟩
  case round =>
    obtain ⟨n, rfl, hnl, hown, hbV⟩ := hrel
    by_cases hlt : n < ps.length
    · obtain ⟨x, hx⟩ : ∃ x, ps[n]? = some x := ⟨_, List.getElem?_eq_getElem hlt⟩
      obtain ⟨g, rfl⟩ := Hs.out (by omega)
      obtain ⟨b0, b1, nb, nm, b2, hnx⟩ := H3.out.2.1.part hx
      have c0 := (hbV.cell (World.block_lt_of_cell? _ _ b0)).trans b0
      have c1 := (hbV.cell (World.block_lt_of_cell? _ _ b1)).trans b1
      have c2 := (hbV.cell (World.block_lt_of_cell? _ _ b2)).trans b2
      clear b0 b1 b2
      have hxn := Hk.out.2 x (List.mem_of_getElem? hx)
      have hni : (0 : Int) ≤ (n : Int) ∧ (n : Int) < ps.length := by omega
      have hnn : IntKind.i64.wrap ((n : Int) + 1) = (n : Int) + 1 := by rw [IntKind.wrap_i64]; have := H2.out.2.2; omega
      have hbB : Below wr.heap.size wr (wr.alloc (.cells #[.int .i64 x.lo, .int .i64 x.hi, .slice nb x.nx.length nm] 32)) := (Below.refl _ wr).alloc (Nat.le_refl _) _
      have hqB : Holds (wr.alloc (.cells #[.int .i64 x.lo, .int .i64 x.hi, .slice nb x.nx.length nm] 32)) wr.heap.size 32 [.int .i64 x.lo, .int .i64 x.hi, .slice nb x.nx.length nm] := Holds.new wr _ _
      have hown1 := owns_same hown (fun g' e => hbB.block g' (owns_lt hown e).2)
      have hb1 := hbV.trans (hbB.mono hbV.size)
      have Hx := Lib.hid (And.intro hx (And.intro hxn (And.intro hlt hnl))); clear hx hxn hnl hlt
      have Ho := Lib.hid (And.intro hown1 hb1); clear hown1 hb1 hown
      have Hnx := Lib.hid (fun h => (hnx h)); clear hnx
      have HbV := Lib.hid hbV; clear hbV
      have HqB := Lib.hid hqB; clear hqB hbB
      go_upto_region 9 with fail
      clear c0 c1 c2
      have q2 := HqB.out.cell (i := 2) rfl
      generalize wr.alloc (.cells #[.int .i64 x.lo, .int .i64 x.hi, .slice nb x.nx.length nm] 32) = w4 at *
      go_wp2_with fail
      clear q2
      have Hnn := Lib.hid hnn; clear hnn
      go_loopw [7, 32] (fun s7 s32 U => ∃ k : Nat, s32 = .int .i64 k ∧ k ≤ x.nx.length ∧ U.ownsRow w3.heap.size 47 2 s7 (loopsTo ps n ++ pairsP ps n (x.nx.take k)).length (cells2 (loopsTo ps n ++ pairsP ps n (x.nx.take k))) ∧ Below w3.heap.size w3 U) (fun _ s32 _ => x.nx.length - (intOf s32).toNat)
      case atStart => exact ⟨0, rfl, Nat.zero_le _, by simpa [pairsP] using Ho.out.1, Ho.out.2⟩
      case round =>
        obtain ⟨k, rfl, hkl, hown, hbU⟩ := hrel
        by_cases hk : k < x.nx.length
        · obtain ⟨m, hm⟩ : ∃ m, x.nx[k]? = some m := ⟨_, List.getElem?_eq_getElem hk⟩
          obtain ⟨q, hq, -, hcs⟩ := Hnx.out (by omega)
          subst hq
          have hcm := (hbU.cell (World.block_lt_of_cell? _ _ (hcs k m hm))).trans (hcs k m hm)
          have hml := Hk.out.1 n m (by rw [nxOf_some Hx.out.1]; exact List.mem_of_getElem? hm)
          obtain ⟨d1, d2⟩ := (H3.out.1.next hbU).cellD hml Hx.out.2.2.1
          generalize bs.getD m 0 = bm at d1 d2
          have hpn := pairs_next (ps := ps) (n := n) hm
          have hki : (0 : Int) ≤ (k : Int) ∧ (k : Int) < x.nx.length := by omega
          have hmi : (0 : Int) ≤ (m : Int) ∧ (m : Int) < ps.length := by omega
          have hkk : IntKind.i64.wrap ((k : Int) + 1) = (k : Int) + 1 := by rw [IntKind.wrap_i64]; have := Hx.out.2.1; omega
          have hni : (0 : Int) ≤ (n : Int) ∧ (n : Int) < ps.length := by have := Hx.out.2.2.1; omega
          have Hkl := Lib.hid (And.intro hkl hk)
          have Hm := Lib.hid hm
          have HbU := Lib.hid hbU
          have Hown := Lib.hid hown
          clear hkl hk hm hbU hown hcs hml
          cases hdm : domB2 ps m n with
          | false =>
            rw [hdm] at d2 hpn
            rw [if_neg (by decide), List.append_nil] at hpn
            have Hpn := Lib.hid hpn; clear hpn hdm
            go_wp2_with fail
            go_roundw
            case rel => exact ⟨k + 1, rfl, by have := Hkl.out; omega, by rw [Hpn.out]; exact Hown.out, HbU.out⟩
            case measure => simp [intOf]; have := Hkl.out; omega
          | true =>
            rw [hdm] at d2 hpn
            rw [if_pos rfl] at hpn
            have hlen : (loopsTo ps n ++ pairsP ps n (x.nx.take k)).length ≤ 1000000 := by
              have h1 := loops_len Hk.out.2 n
              have h2 := pairs_len ps n (x.nx.take k)
              rw [List.length_append]
              rw [List.length_take] at h2
              have := Hx.out; have := H2.out.2.2; omega
            obtain ⟨g6, cap6, w6, hap, hown6, hgr6⟩ := appP_own w3.heap.size _ _ _ (n : Int) (m : Int) wr Hown.out hlen HbU.out.size
            have hb6 : Below w3.heap.size w3 w6 := (HbU.out.alloc HbU.out.size _).grown hgr6 (by simp; have := HbU.out.size; omega) (fun r e => (owns_lt Hown.out e).1)
            have H6 := Lib.hid (And.intro hown6 hb6); clear hown6 hb6 hgr6 hlen
            have Hpn := Lib.hid hpn; clear hpn hdm
            go_wp2_with fail
            go_roundw
            case rel => exact ⟨k + 1, rfl, by have := Hkl.out; omega, by
              rw [Hpn.out, ← List.append_assoc, List.length_append, List.length_singleton]
              have e : cells2 (loopsTo ps n ++ pairsP ps n (x.nx.take k) ++ [(n, m)]) = cells2 (loopsTo ps n ++ pairsP ps n (x.nx.take k)) ++ [.int .i64 (n : Nat), .int .i64 (m : Nat)] := by simp [cells2]
              have h6 := H6.out.1
              rw [e]
              simp only [List.length_append] at h6 ⊢
              exact h6, H6.out.2⟩
            case measure => simp [intOf]; have := Hkl.out; omega
        · have hke : k = x.nx.length := by omega
          subst hke
          have HF := Lib.hid (And.intro hown hbU); clear hown hbU hkl hk
          have hnn := Hnn.out
          go_wp2_with fail
          go_roundw
          case rel => exact ⟨n + 1, rfl, by have := Hx.out.2.2.1; omega, by rw [loopsTo_succ, nxOf_some Hx.out.1]; have := HF.out.1; rwa [List.take_of_length_le (Nat.le_refl _)] at this, HF.out.2⟩
          case measure => simp [intOf]; have := Hx.out.2.2.1; omega
    · have hne : n = ps.length := by omega
      subst hne
      have HF := Lib.hid (And.intro hown hbV); clear hown hbV hnl hlt
      have e := Hps.out
      subst e
      go_wp2_with fail
      refine bodyPost_ret (v := .tuple #[u7, .int .i64 0]) (by simp [results, Tryd.results12, go_sem]) rfl ⟨_, rfl, owns_mono HF.out.1 (fun g' e => Nat.le_trans H3.out.2.2.size (owns_lt HF.out.1 e).1), H3.out.2.2.trans (HF.out.2.mono H3.out.2.2.size)⟩

end Go.Proofs.YtehnailokgoekaaDoor
