/- NodeBack: for every input that can be read the law answers true, and each argument reads behind the call as it read before. No condition. -/
import Derived.Test.YtddajnpichchfaaNodeAA
import Derived.Test.YtddajnpichchfaaDat
import Derived.ProofKit
import Derived.OpenShut
import Derived.ShutString
import Derived.ChangeOld
import Derived.Below
namespace Go.Proofs.Ytddajnpichchfaa
section
open Go.ChangeShapes Go.WideShapes Go.ChangeAt Go.RowKit Go.Deep

def pairKinds : List CK := [⟨0, .i64⟩, ⟨0, .u64⟩]
theorem stepsP_in {w : World} {a : Option Addr} {len : Nat} (h : Came w a len stepKinds) : ∃ xs : List StepN, xs.length = len ∧ StepsP w a xs ∧ ∀ x ∈ xs, x.n ≤ 9223372036854775807 := by
  by_cases h0 : len = 0
  · exact ⟨[], by simp [h0], (fun k x hx => by simp at hx), fun _ h => by cases h⟩
  · obtain ⟨q, c, rfl, hq⟩ := h.addr h0 (by simp [stepKinds])
    obtain ⟨xs, hl, h1, h2⟩ := steps_in h hq
    exact ⟨xs, hl, fun k x hx => ⟨q, c, rfl, hq, h1.2 k x hx⟩, h2⟩
theorem pairsP_in {w : World} {a : Option Addr} {len : Nat} (h : Came w a len pairKinds) : ∃ ys : List (Int × Int), ys.length = len ∧ PairsP w a ys ∧ ∀ y ∈ ys, y.1 ≤ 9223372036854775807 := by
  by_cases h0 : len = 0
  · exact ⟨[], by simp [h0], (fun k y hy => by simp at hy), fun _ h => by cases h⟩
  · obtain ⟨q, c, rfl, hq⟩ := h.addr h0 (by simp [pairKinds])
    have g : ∀ i, ∃ y : Int × Int, i < len → (w.cell? ⟨q, c + i * 2, none⟩ = some (.int .i64 y.1) ∧ w.cell? ⟨q, c + i * 2 + 1, none⟩ = some (.int .u64 y.2)) ∧ y.1 ≤ 9223372036854775807 := fun i => by
      by_cases hi : i < len
      · obtain ⟨_, e0, _, c0, n0, rfl, g0⟩ := h i hi 0 _ rfl
        obtain ⟨_, e1, _, c1, n1, rfl, g1⟩ := h i hi 1 _ rfl
        cases e0; cases e1
        exact ⟨(n0, n1), fun _ => ⟨⟨came_cell c0, by rw [Nat.add_assoc]; exact came_cell c1⟩, (i64_le g0).2⟩⟩
      · exact ⟨(0, 0), fun h => absurd h hi⟩
    refine ⟨(List.range len).map fun i => (g i).choose, by simp, (fun k y hy => ?_), fun x hx => ?_⟩
    · rw [List.getElem?_map, Option.map_eq_some_iff] at hy
      obtain ⟨i, hi, rfl⟩ := hy
      obtain ⟨hlt, rfl⟩ := List.getElem?_eq_some_iff.1 hi
      rw [List.length_range] at hlt
      rw [List.getElem_range]
      exact ⟨q, c, rfl, hq, ((g k).choose_spec hlt).1.1, ((g k).choose_spec hlt).1.2⟩
    · rw [List.mem_map] at hx
      obtain ⟨i, hi, rfl⟩ := hx
      exact ((g i).choose_spec (List.mem_range.1 hi)).2
/-- A Tx that came in. -/
theorem tx_in {H : Type} {enc : TypeId × Value → H} {W : World} {base : Nat} {spare : Nat → Bool} {held : Bool} {fuel : Nat} {x y z : Value} {r : DataW H × List MemPlace} (hf : DataW.trod enc Try.prog W base spare held fuel 81 [x, y, z] = some r) :
    ∃ ap len cap code cm, x = .slice ap len cap ∧ y = .int .i64 code ∧ z = .bool cm ∧ Came W ap len pairKinds := by
  obtain ⟨xs, n, _, _, _, hxs, hF⟩ := DataW.trod_struct Try.underlying81 hf
  have f0 := hF 0 _ rfl
  have f1 := hF 1 _ rfl
  have f2 := hF 2 _ rfl
  rw [List.getElem?_eq_getElem (by rw [hxs]; decide)] at f0 f1 f2
  have g0 : DataW.trod enc Try.prog W base spare held n 79 (([x, y, z].drop 0).take (Try.prog.cellsOf 79)) = some _ := f0
  have g1 : DataW.trod enc Try.prog W base spare held n 3 (([x, y, z].drop 1).take (Try.prog.cellsOf 3)) = some _ := f1
  have g2 : DataW.trod enc Try.prog W base spare held n 4 (([x, y, z].drop 2).take (Try.prog.cellsOf 4)) = some _ := f2
  rw [show Try.prog.cellsOf 79 = 1 from by kernel_rfl] at g0
  rw [show Try.prog.cellsOf 3 = 1 from by kernel_rfl] at g1
  rw [show Try.prog.cellsOf 4 = 1 from by kernel_rfl] at g2
  simp only [List.drop_zero, List.drop_succ_cons, List.take_succ_cons, List.take_zero] at g0 g1 g2
  obtain ⟨code, e1, _, _⟩ := DataW.trod_int Try.underlying3 g1
  obtain ⟨cm, e2, _⟩ := DataW.trod_bool Try.underlying4 g2
  cases e1
  cases e2
  rcases open_slice Try.underlying79 g0 with ⟨h0, _⟩ | ⟨b, l, c, _, _, _, _, hcs, _⟩
  · cases h0
    exact ⟨none, 0, 0, code, cm, rfl, rfl, rfl, (open_plain (ks := pairKinds) (d := 6) Try.underlying79 (by kernel_rfl) (by kernel_rfl) g0).2⟩
  · cases hcs
    exact ⟨some b, l, c, code, cm, rfl, rfl, rfl, (open_plain (ks := pairKinds) (d := 6) Try.underlying79 (by kernel_rfl) (by kernel_rfl) g0).2⟩

set_option maxRecDepth 100000 in
set_option maxHeartbeats 2000000 in
theorem nback_bad (L cores : Int) (sets ways : Int) (al ap : Option Addr) (xl yl cl cp : Nat) (code : Int) (cm : Bool) (w : World) (h : SetupBad L cores sets ways) :
    Calls Try.prog 6 #[.agg #[.int .i64 L, .int .i64 cores, .int .i64 sets, .int .i64 ways], .slice al xl cl, .agg #[.slice ap yl cp, .int .i64 code, .bool cm]] w fun e w' => e = .returned (.bool true) ∧ Below w.heap.size w w' := by
  have HNew := Lib.hid (fun W => nnew_bad3 L cores sets ways W h); clear h
  go_enter Try.func6, Try.ntmps6
  go_wp2_with fail
  generalize hW0 : ((w.alloc (.cells #[.int .i64 L, .int .i64 cores, .int .i64 sets, .int .i64 ways] 66)).alloc (.cells #[.slice ap yl cp, .int .i64 code, .bool cm] 81)) = W0
  have hbW : Below w.heap.size w W0 := by rw [← hW0]; exact ((Below.refl _ w).alloc (Nat.le_refl _) _).alloc (by simp) _
  have hsz : W0.heap.size = w.heap.size + 2 := by rw [← hW0]; simp
  have C0 : W0.cell? ⟨w.heap.size, 0, none⟩ = some (.int .i64 L) := by rw [← hW0]; simp
  have C1 : W0.cell? ⟨w.heap.size, 1, none⟩ = some (.int .i64 cores) := by rw [← hW0]; simp
  have C2 : W0.cell? ⟨w.heap.size, 2, none⟩ = some (.int .i64 sets) := by rw [← hW0]; simp
  have C3 : W0.cell? ⟨w.heap.size, 3, none⟩ = some (.int .i64 ways) := by rw [← hW0]; simp
  have HD : Hid (∀ W : World, Below W0.heap.size W0 W → W.cell? ⟨w.heap.size + 1, 0, none⟩ = some (.slice ap yl cp) ∧ W.cell? ⟨w.heap.size + 1, 1, none⟩ = some (.int .i64 code) ∧ W.cell? ⟨w.heap.size + 1, 2, none⟩ = some (.bool cm)) := Lib.hid (fun W hW => by
    rw [hW.cell (p := ⟨w.heap.size + 1, 0, none⟩) (by rw [hsz]; simp), hW.cell (p := ⟨w.heap.size + 1, 1, none⟩) (by rw [hsz]; simp), hW.cell (p := ⟨w.heap.size + 1, 2, none⟩) (by rw [hsz]; simp), ← hW0]
    simp)
  clear hW0
  have HbW := Lib.hid hbW; clear hbW
  refine (nalive_ok _).mono ?_
  rintro e wa ⟨rfl, hba⟩
  have c0 : wa.cell? ⟨w.heap.size, 0, none⟩ = some (.int .i64 L) := by rw [hba.cell (p := ⟨w.heap.size, 0, none⟩) (by rw [hsz]; simp)]; exact C0
  have c1 : wa.cell? ⟨w.heap.size, 1, none⟩ = some (.int .i64 cores) := by rw [hba.cell (p := ⟨w.heap.size, 1, none⟩) (by rw [hsz]; simp)]; exact C1
  have c2 : wa.cell? ⟨w.heap.size, 2, none⟩ = some (.int .i64 sets) := by rw [hba.cell (p := ⟨w.heap.size, 2, none⟩) (by rw [hsz]; simp)]; exact C2
  have c3 : wa.cell? ⟨w.heap.size, 3, none⟩ = some (.int .i64 ways) := by rw [hba.cell (p := ⟨w.heap.size, 3, none⟩) (by rw [hsz]; simp)]; exact C3
  clear C0 C1 C2 C3
  have Hba := Lib.hid hba; clear hba
  go_wp2_with fail
  clear c0 c1 c2 c3
  refine (HNew.out wa).mono ?_
  rintro e wb ⟨rfl, hb⟩
  have Hb := Lib.hid (HbW.out.trans ((Hba.out.trans (hb.mono Hba.out.size)).mono (by omega))); clear hb HD
  go_wp2
  go_ret
  exact ⟨rfl, Hb.out⟩

set_option maxRecDepth 100000 in
set_option maxHeartbeats 2000000 in
theorem nback_long (L cores : Int) (sets ways : Nat) (al ap : Option Addr) (xl yl cl cp : Nat) (code : Int) (cm : Bool) (w : World) (h2 : 0 < cores) (h3 : cores ≤ 4) (h4 : 2 ≤ L) (h5 : L ≤ 64) (s1 : 1 ≤ sets) (s8 : sets ≤ 8) (w1 : 1 ≤ ways) (w4 : ways ≤ 4) (hl : 300 < xl ∨ 200 < yl) :
    Calls Try.prog 6 #[.agg #[.int .i64 L, .int .i64 cores, .int .i64 sets, .int .i64 ways], .slice al xl cl, .agg #[.slice ap yl cp, .int .i64 code, .bool cm]] w fun e w' => e = .returned (.bool true) ∧ Below w.heap.size w w' := by
  have HNew := Lib.hid (fun W => nnew_ok 0 L cores sets ways W (by omega) h2 h3 h4 h5 s1 s8 w1 w4)
  have HL := Lib.hid hl
  clear h2 h3 h4 h5 s1 s8 w1 w4 hl
  go_enter Try.func6, Try.ntmps6
  go_wp2_with fail
  generalize hW0 : ((w.alloc (.cells #[.int .i64 L, .int .i64 cores, .int .i64 sets, .int .i64 ways] 66)).alloc (.cells #[.slice ap yl cp, .int .i64 code, .bool cm] 81)) = W0
  have hbW : Below w.heap.size w W0 := by rw [← hW0]; exact ((Below.refl _ w).alloc (Nat.le_refl _) _).alloc (by simp) _
  have hsz : W0.heap.size = w.heap.size + 2 := by rw [← hW0]; simp
  have C0 : W0.cell? ⟨w.heap.size, 0, none⟩ = some (.int .i64 L) := by rw [← hW0]; simp
  have C1 : W0.cell? ⟨w.heap.size, 1, none⟩ = some (.int .i64 cores) := by rw [← hW0]; simp
  have C2 : W0.cell? ⟨w.heap.size, 2, none⟩ = some (.int .i64 sets) := by rw [← hW0]; simp
  have C3 : W0.cell? ⟨w.heap.size, 3, none⟩ = some (.int .i64 ways) := by rw [← hW0]; simp
  have HD : Hid (∀ W : World, Below W0.heap.size W0 W → W.cell? ⟨w.heap.size + 1, 0, none⟩ = some (.slice ap yl cp) ∧ W.cell? ⟨w.heap.size + 1, 1, none⟩ = some (.int .i64 code) ∧ W.cell? ⟨w.heap.size + 1, 2, none⟩ = some (.bool cm)) := Lib.hid (fun W hW => by
    rw [hW.cell (p := ⟨w.heap.size + 1, 0, none⟩) (by rw [hsz]; simp), hW.cell (p := ⟨w.heap.size + 1, 1, none⟩) (by rw [hsz]; simp), hW.cell (p := ⟨w.heap.size + 1, 2, none⟩) (by rw [hsz]; simp), ← hW0]
    simp)
  clear hW0
  have HbW := Lib.hid hbW; clear hbW
  refine (nalive_ok _).mono ?_
  rintro e wa ⟨rfl, hba⟩
  have c0 : wa.cell? ⟨w.heap.size, 0, none⟩ = some (.int .i64 L) := by rw [hba.cell (p := ⟨w.heap.size, 0, none⟩) (by rw [hsz]; simp)]; exact C0
  have c1 : wa.cell? ⟨w.heap.size, 1, none⟩ = some (.int .i64 cores) := by rw [hba.cell (p := ⟨w.heap.size, 1, none⟩) (by rw [hsz]; simp)]; exact C1
  have c2 : wa.cell? ⟨w.heap.size, 2, none⟩ = some (.int .i64 sets) := by rw [hba.cell (p := ⟨w.heap.size, 2, none⟩) (by rw [hsz]; simp)]; exact C2
  have c3 : wa.cell? ⟨w.heap.size, 3, none⟩ = some (.int .i64 ways) := by rw [hba.cell (p := ⟨w.heap.size, 3, none⟩) (by rw [hsz]; simp)]; exact C3
  clear C0 C1 C2 C3
  have Hba := Lib.hid hba; clear hba
  go_wp2_with fail
  clear c0 c1 c2 c3
  refine (HNew.out wa).mono ?_
  rintro e wb ⟨a, p, S, bs, rfl, -, hs⟩
  have hb0 := Hba.out.trans (hs.below.mono Hba.out.size)
  have Hb := Lib.hid (HbW.out.trans (hb0.mono (by omega)))
  have d0 := (HD.out wb hb0).1
  clear hs hb0 HD
  by_cases ha : 300 < xl
  · clear HL
    go_wp2
    go_ret
    exact ⟨rfl, Hb.out⟩
  · have hb : 200 < yl := HL.out.resolve_left ha
    clear HL
    go_wp2
    go_ret
    exact ⟨rfl, Hb.out⟩

theorem nback_any (lines cores sets ways : Int) (al ap : Option Addr) (xl yl cl cp : Nat) (code : Int) (cm : Bool) (w : World) (hx : Came w al xl stepKinds) (hy : Came w ap yl pairKinds) :
    Calls Try.prog 6 #[.agg #[.int .i64 lines, .int .i64 cores, .int .i64 sets, .int .i64 ways], .slice al xl cl, .agg #[.slice ap yl cp, .int .i64 code, .bool cm]] w fun e w' => e = .returned (.bool true) ∧ Below w.heap.size w w' := by
  by_cases hb : SetupBad lines cores sets ways
  · exact nback_bad lines cores sets ways al ap xl yl cl cp code cm w hb
  · unfold SetupBad at hb
    obtain ⟨sets, rfl⟩ := Int.eq_ofNat_of_zero_le (show 0 ≤ sets by omega)
    obtain ⟨ways, rfl⟩ := Int.eq_ofNat_of_zero_le (show 0 ≤ ways by omega)
    by_cases hl : 300 < xl ∨ 200 < yl
    · exact nback_long lines cores sets ways al ap xl yl cl cp code cm w (by omega) (by omega) (by omega) (by omega) (by omega) (by omega) (by omega) (by omega) hl
    · obtain ⟨xs, rfl, h1, h2⟩ := stepsP_in hx
      obtain ⟨ys, rfl, h3, h4⟩ := pairsP_in hy
      exact nback_ok lines cores sets ways xs ys al ap cl cp code cm w (by omega) (by omega) (by omega) (by omega) (by omega) (by omega) (by omega) (by omega) (by omega) (by omega) h1 h3 h2 h4

end
end Go.Proofs.Ytddajnpichchfaa
namespace Go.Proofs.Ytddajnpichchfaa
open Go.ChangeShapes Go.WideShapes Go.ChangeAt Go.RowKit
open Go.ChangeMaps (open_string shut_string)

theorem three_of {cs : Array Value} (h : cs.size = 3) : ∃ a b c, cs = #[a, b, c] := by
  obtain ⟨l⟩ := cs
  match l, h with
  | [a, b, c], _ => exact ⟨a, b, c, rfl⟩
theorem four_of' {cs : Array Value} (h : Fit [(⟨0, .i64⟩ : CK), ⟨0, .i64⟩, ⟨0, .i64⟩, ⟨0, .i64⟩] cs.toList) : ∃ a b c d : Int, cs = #[.int .i64 a, .int .i64 b, .int .i64 c, .int .i64 d] := by
  obtain ⟨l⟩ := cs
  have h1 := h.1
  have h2 := h.2
  match l, h1 with
  | [c0, c1, c2, c3], _ =>
    obtain ⟨x0, rfl, _⟩ := h2 0 _ _ rfl rfl
    obtain ⟨x1, rfl, _⟩ := h2 1 _ _ rfl rfl
    obtain ⟨x2, rfl, _⟩ := h2 2 _ _ rfl rfl
    obtain ⟨x3, rfl, _⟩ := h2 3 _ _ rfl rfl
    exact ⟨x0, x1, x2, x3, rfl⟩

theorem ownNodeBack : ownKnob Try.prog.godebug = none := by kernel_rfl
theorem laidOutNodeBack : laidOutB Try.prog = true := by kernel_rfl

set_option maxRecDepth 100000 in
theorem liftedNodeBack (os : Os) (started : os.Started) (H : Type) (enc : TypeId × Value → H) :
    ReturnsInHanded {} Try.checked os 6 .any (Rows.nodeBackSpec.pre6 enc Try.prog Try.f6 Rows.nodeBackRow.domain false) (Rows.nodeBackSpec.post enc Try.prog Try.f6 false true false false) := by
  refine returnsInHanded_of_change (C := Try.checked) ownNodeBack started (by kernel_rfl) Try.func6
    (ChangeSpec.witness6 (enc := enc) (C := Try.checked) false ⟨#[], #[.agg #[.int .i64 0, .int .i64 0, .int .i64 0, .int .i64 0], .slice none 0 0, .agg #[.slice none 0 0, .int .i64 0, .bool false]], []⟩ 8 (by kernel_rfl) (by kernel_rfl) (by kernel_rfl) (by kernel_rfl)) ?_
  intro W base args ds gs before hval0 hW hcnd _
  have hval : ∀ (j : Nat) t v, Try.f6.params[j]? = some t → args[j]? = some v → Value.okWide Try.prog W .any base t v := hval0
  have hW' := hW
  obtain ⟨p, q, hA0, hV, rfl, hfz, hnd⟩ := hW
  have hA : DataW.TrodAll enc Try.prog W 0 (fun _ => true) true Try.f6.params.toList args.toList ds p := hA0
  rw [Try.params6] at hA hval
  obtain ⟨v0, vs0, d0, ds0, p0, q0, hargs, rfl, rfl, h0, r0⟩ := trodAll_cons hA
  obtain ⟨v1, vs1, d1, ds1, p1, q1, rfl, rfl, rfl, h1, r1⟩ := trodAll_cons r0
  obtain ⟨v2, vs2, d2, ds2, p2, q2, rfl, rfl, rfl, h2, r2⟩ := trodAll_cons r1
  obtain ⟨rfl, rfl, rfl⟩ := trodAll_nil r2
  obtain rfl : args = #[v0, v1, v2] := by cases args; simp_all
  obtain ⟨rfl, rfl⟩ := trodVars_none hV
  have k0 := h0
  have lt0 : ∀ x ∈ p0, x.block < W.heap.size := by obtain ⟨m, hm⟩ := k0; exact DataW.trod_lt m _ _ _ hm
  have k1 := h1
  have lt1 : ∀ x ∈ p1, x.block < W.heap.size := by obtain ⟨m, hm⟩ := k1; exact DataW.trod_lt m _ _ _ hm
  have k2 := h2
  have lt2 : ∀ x ∈ p2, x.block < W.heap.size := by obtain ⟨m, hm⟩ := k2; exact DataW.trod_lt m _ _ _ hm
  obtain ⟨cs0, rfl, hz0⟩ := okWide_struct Try.underlying66 (hval 0 66 v0 rfl rfl)
  have hf0 : Fit [(⟨0, .i64⟩ : CK), ⟨0, .i64⟩, ⟨0, .i64⟩, ⟨0, .i64⟩] cs0.toList := by
    obtain ⟨fuel, hf⟩ := h0
    exact fit_of_trod 6 _ _ _ _ _ (by kernel_rfl) (by simpa [Value.cells] using hf)
  obtain ⟨m0, m1, m2, m3, rfl⟩ := four_of' hf0
  obtain ⟨a1, len1, cap1, rfl⟩ := okWide_slice Try.underlying73 (hval 1 73 v1 rfl rfl)
  obtain ⟨_, hp1⟩ : len1 ≤ maxLen ∧ Came W a1 len1 stepKinds := by
    obtain ⟨fuel, hf⟩ := h1
    exact open_plain (ks := stepKinds) (d := 6) Try.underlying73 (by kernel_rfl) (by kernel_rfl) hf
  obtain ⟨cs2, rfl, hz2⟩ := okWide_struct Try.underlying81 (hval 2 81 v2 rfl rfl)
  obtain ⟨x2, y2, z2, rfl⟩ := three_of (show cs2.size = 3 from hz2)
  obtain ⟨fuel2, hf2⟩ := h2
  obtain ⟨ap, len2, cap2, code, cm, rfl, rfl, rfl, hp2⟩ := tx_in hf2
  clear hA0 hval0
  refine (nback_any m0 m1 m2 m3 a1 ap len1 len2 cap1 cap2 code cm W hp1 hp2).mono fun e W' ⟨he, bel⟩ => ?_
  subst he
  exact ⟨_, rfl, _, _, _, [], _, [], hW', trodAll_mk1 (shut_bool Try.underlying4 _), (trodAll_cons_mk (Below.trod laidOutNodeBack (by kernel_rfl) (of_decide_eq_true (by kernel_rfl)) k0 bel lt0) (trodAll_cons_mk (Below.trod laidOutNodeBack (by kernel_rfl) (of_decide_eq_true (by kernel_rfl)) k1 bel lt1) (trodAll_cons_mk (Below.trod laidOutNodeBack (by kernel_rfl) (of_decide_eq_true (by kernel_rfl)) k2 bel lt2) trodAll_mk0))), rfl, bel.frame _, fun h => by cases h⟩

theorem nodeBack_holds : Rows.NodeBackSaid :=
  OpenClaim.holds_of_wide 6 Try.f6 rfl rfl rfl rfl rfl rfl rfl ⟨rfl, rfl, rfl, rfl, rfl⟩ rfl rfl rfl rfl rfl (by kernel_rfl) Try.func6 (by kernel_rfl)
    (of_decide_eq_true (by kernel_rfl)) (by unfold Func.isWrapper; first | (rw [if_pos (by decide +kernel)]; kernel_rfl) | (rw [if_neg (by decide +kernel)]; exact ⟨rfl, rfl⟩))
    (fun os started H enc _ => liftedNodeBack os started H enc)

end Go.Proofs.Ytddajnpichchfaa
