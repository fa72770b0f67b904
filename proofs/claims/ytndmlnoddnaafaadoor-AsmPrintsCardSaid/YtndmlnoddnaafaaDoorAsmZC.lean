/- AsmPrints: the walk. Conditions: those stated in each theorem. -/
import Derived.Test.YtndmlnoddnaafaaDoorAsmZB
import Derived.Test.YtndmlnoddnaafaaDoorAsmT
import Derived.Test.YtndmlnoddnaafaaDoorCame
import Derived.Laws.AppendOwnNone
import Derived.Maps.AppendAt
import Derived.SizedLaws
import Derived.Deep.Slices
namespace Go.Proofs.YtndmlnoddnaafaaDoor
open Go.RowKit Go.BigFrame Go.Shelf Go.Maps Go.ChangeShapes Go.WideShapes Go.ChangeAt

theorem print_over (a : Option Addr) (cap n : Nat) (w : World) (hn : 1024 < n) : Calls Tryd.prog 6 #[.slice a n cap] w fun e w' => e = .returned (.tuple #[.string ⟨#[]⟩, .int .i64 2]) ∧ w = w' := by
  have d1 : decide (1024 < (n : Int)) = true := decide_eq_true (by omega)
  go_enter Tryd.func6, Tryd.ntmps6
  go_wp2_with fail
  exact bodyPost_ret (results_tmp2 rfl _ _ _) rfl ⟨rfl, rfl⟩

theorem owns_zero5 (w : World) (t : TypeId) : (w.alloc (.cells #[] t)).ownsRow w.heap.size t 5 (.slice (some ⟨w.heap.size, 0, none⟩) 0 0) 0 [] :=
  ⟨rfl, .inr ⟨w.heap.size, 0, #[], rfl, Nat.le_refl _, new_block w _, Nat.le_refl _, by unfold maxLen; omega, rfl, rfl⟩⟩
theorem flatA_len : ∀ (l : List In), (flatA l).length = l.length * 5
  | [] => rfl
  | x :: r => by
    have := flatA_len r
    unfold flatA at this ⊢
    rw [List.flatMap_cons, List.length_append, this, List.length_cons]
    simp [In.cells]; omega
/-- The cells that came in. -/
theorem rows_newsA {w : World} {a : Option Addr} {l : List In} (h : RowsIn w a 5 In.cells l) (ad : Addr) (ha : a = some ad) : ∀ j u, (flatA l)[j]? = some u → w.cell? (ad.add j) = some u := by
  intro j u hj
  have hlt : j < l.length * 5 := by rw [← flatA_len]; exact (List.getElem?_eq_some_iff.1 hj).1
  have hk : j / 5 < l.length := by omega
  obtain ⟨x, hx⟩ : ∃ x, l[j / 5]? = some x := ⟨l[j / 5], List.getElem?_eq_getElem hk⟩
  obtain ⟨q, c, e, hq, hr⟩ := h.row hx
  rw [ha] at e
  cases e
  have hm : j % 5 < 5 := Nat.mod_lt _ (by omega)
  have hc := In.cell_get x hm
  have h1 := flatA_at l _ x hx _ _ hc
  rw [show j / 5 * 5 + j % 5 = j by omega, hj] at h1
  cases h1
  have := hr _ _ hc
  rw [show c + j / 5 * 5 + j % 5 = c + j by omega] at this
  unfold Addr.add
  split
  · rename_i h0; subst h0; exact this
  · exact this
theorem flatA_one (l : List In) : ∀ u ∈ flatA l, u.oneCell' = true := by
  intro u hu
  unfold flatA at hu
  obtain ⟨x, _, hx⟩ := List.mem_flatMap.1 hu
  simp only [In.cells, List.mem_cons, List.not_mem_nil, or_false] at hx
  rcases hx with rfl | rfl | rfl | rfl | rfl <;> rfl

set_option maxRecDepth 100000 in
set_option maxHeartbeats 4000000 in
theorem aprints_some (ad : Addr) (cap : Nat) (l : List In) {w : World} (h : StdP w) (hr : RowsIn w (some ad) 5 In.cells l) (hok : ∀ i ∈ l, i.Ok) (h40 : l.length * 40 ≤ 140737488355328) : Calls Tryd.prog 3 #[.slice (some ad) l.length cap] w fun e w' => e = .returned (.bool true) ∧ Below w.heap.size w w' := by
  have H := Lib.hid h; clear h
  have Hr := Lib.hid hr; clear hr
  have Hok := Lib.hid hok; clear hok
  obtain ⟨i0, hi0, hz0, hz1, hz2⟩ := info_parts Tryd.infoIn
  have Hi := Lib.hid hi0; clear hi0
  have Hz0 := Lib.hid hz0; clear hz0
  have Hz1 := Lib.hid hz1; clear hz1
  have Hz2 := Lib.hid hz2; clear hz2
  have Hr0 : Hid (RowsIn (w.alloc (.cells #[] 44)) (some ad) 5 In.cells l) := Lib.hid (Hr.out.below ((Below.refl _ w).alloc (Nat.le_refl _) _))
  go_enter Tryd.func3, Tryd.ntmps3
  go_wp2_with (at_builtin; refine wpList_append_own_at _ rfl (.tmp 8) (.tmp 9) 22 rfl w.heap.size 44 i0 _ 5 40 Tryd.underlying22 Hi.out Hz0.out Hz1.out Hz2.out rfl (by decide) (.slice (some ⟨w.heap.size, 0, none⟩) 0 0) 0 [] rfl (owns_zero5 w _) ad l.length cap (flatA l) rfl (flatA_len l) (rows_newsA Hr0.out ad rfl) (flatA_one l) (by unfold maxLen; omega) (by omega) (by simp) ?_; intro v3 w3 hown3 hgrow3 hnil3 hat3; refine Hid.out ?_)
  refine Lib.hid ?_
  have hb3 : Below w.heap.size w w3 := ((Below.refl _ w).alloc (Nat.le_refl _) _).grown hgrow3 (by simp) (fun g hg => by cases hg; exact Nat.le_refl _)
  rw [List.nil_append, Nat.zero_add] at hown3
  obtain ⟨a3, cap3, rfl⟩ := row_form hown3
  have Hr3 : Hid (RowsIn w3 a3 5 In.cells l) := Lib.hid (rows_all hown3)
  have Hb3 := Lib.hid hb3; clear hb3 hown3 hgrow3 hnil3 hat3 Hr0 Hi Hz0 Hz1 Hz2
  by_cases h1 : 1024 < l.length
  · have d1 : decide (1024 < (l.length : Int)) = true := decide_eq_true (by omega)
    go_wp2_with fail
    refine (print_over a3 cap3 l.length w3 h1).mono ?_
    rintro e w4 ⟨rfl, rfl⟩
    go_wp2_with fail
    exact bodyPost_ret (results_tmp rfl _ _ _) rfl ⟨rfl, Hb3.out⟩
  · have d1 : decide (1024 < (l.length : Int)) = false := decide_eq_false (by omega)
    have hl2 : l.length ≤ 1024 := by omega
    have hpp := print_any a3 cap3 l (H.out.below Hb3.out) Hr3.out Hok.out hl2
    have hrp := fun V hV => rprint_any (w := V) (some ad) cap l hV Hok.out hl2
    have hpl : (printP l).length ≤ 400000 := by have := print_len Hok.out hl2 (l.length + 1) (Nat.le_refl _); unfold printP; omega
    generalize printP l = pr at *
    have Hpp := Lib.hid hpp; clear hpp
    have Hrp := Lib.hid hrp; clear hrp
    go_wp2_with fail
    refine Hpp.out.mono ?_
    rintro e w4 ⟨rfl, hb4⟩
    have Hr4 := Lib.hid (Hr3.out.below hb4)
    have Hb4 := Lib.hid (Hb3.out.trans (hb4.mono Hb3.out.size)); clear hb4
    by_cases h2 : 200 < l.length
    · have d2 : decide (200 < (l.length : Int)) = true := decide_eq_true (by omega)
      go_wp2_with fail
      exact bodyPost_ret (results_tmp rfl _ _ _) rfl ⟨rfl, Hb4.out⟩
    · have d2 : decide (200 < (l.length : Int)) = false := decide_eq_false (by omega)
      go_wp2_with fail
      refine (Hrp.out _ (Hr.out.below Hb4.out)).mono ?_
      rintro e w5 ⟨rfl, hb5⟩
      have Hr5 := Lib.hid (Hr4.out.below hb5)
      have Hb5 := Lib.hid (Hb4.out.trans (hb5.mono Hb4.out.size)); clear hb5
      have hsm := same_yes a3 (some ad) cap3 cap l w5 Hr5.out (Hr.out.below Hb5.out) (by omega)
      have Hsm := Lib.hid hsm; clear hsm
      go_wp2_with fail
      refine Hsm.out.mono ?_
      rintro e w6 ⟨rfl, hb6⟩
      have Hb6 := Lib.hid (Hb5.out.trans (hb6.mono Hb5.out.size)); clear hb6
      go_wp2_with fail
      exact bodyPost_ret (results_tmp rfl _ _ _) rfl ⟨rfl, Hb6.out⟩

set_option maxRecDepth 100000 in
set_option maxHeartbeats 4000000 in
theorem aprints_none (a : Option Addr) (cap : Nat) (l : List In) (ha : (Value.slice a l.length cap) = .slice none 0 0) (hl0 : l.length = 0) {w : World} (h : StdP w) (hr : RowsIn w a 5 In.cells l) (hok : ∀ i ∈ l, i.Ok) : Calls Tryd.prog 3 #[.slice a l.length cap] w fun e w' => e = .returned (.bool true) ∧ Below w.heap.size w w' := by
  have H := Lib.hid h; clear h
  have Hr := Lib.hid hr; clear hr
  have Hok := Lib.hid hok; clear hok
  obtain ⟨i0, hi0, hz0, hz1, hz2⟩ := info_parts Tryd.infoIn
  have Hi := Lib.hid hi0; clear hi0
  have Hz0 := Lib.hid hz0; clear hz0
  have Hz1 := Lib.hid hz1; clear hz1
  have Hz2 := Lib.hid hz2; clear hz2
  have Ha := Lib.hid ha; clear ha
  have Hl0 := Lib.hid hl0; clear hl0
  go_enter Tryd.func3, Tryd.ntmps3
  go_wp2_with (at_builtin; refine wpList_append_own_none rfl (.tmp 8) (.tmp 9) 22 rfl w.heap.size 44 i0 5 Tryd.underlying22 Hi.out (.slice (some ⟨w.heap.size, 0, none⟩) l.length 0) 0 [] (by rw [Hl0.out]; rfl) (by rw [Hl0.out]; exact owns_zero5 w _) Ha.out ?_; refine Hid.out ?_)
  refine Lib.hid ?_
  obtain ⟨a3, ha3⟩ : ∃ a3 : Option Addr, some ⟨w.heap.size, 0, none⟩ = a3 := ⟨_, rfl⟩
  rw [ha3]
  have hb3 : Below w.heap.size w (w.alloc (.cells #[] 44)) := (Below.refl _ w).alloc (Nat.le_refl _) _
  obtain ⟨w3, hw3⟩ : ∃ w3, w.alloc (.cells #[] 44) = w3 := ⟨_, rfl⟩
  rw [hw3] at hb3 ⊢
  have Hr3 : Hid (RowsIn w3 a3 5 In.cells l) := Lib.hid (.inl (List.eq_nil_of_length_eq_zero Hl0.out))
  have Hb3 := Lib.hid hb3; clear hb3 Hi Hz0 Hz1 Hz2 hw3 ha3
  by_cases h1 : 1024 < l.length
  · have d1 : decide (1024 < (l.length : Int)) = true := decide_eq_true (by omega)
    go_wp2_with fail
    refine (print_over a3 0 l.length w3 h1).mono ?_
    rintro e w4 ⟨rfl, rfl⟩
    go_wp2_with fail
    exact bodyPost_ret (results_tmp rfl _ _ _) rfl ⟨rfl, Hb3.out⟩
  · have d1 : decide (1024 < (l.length : Int)) = false := decide_eq_false (by omega)
    have hl2 : l.length ≤ 1024 := by omega
    have hpp := print_any a3 0 l (H.out.below Hb3.out) Hr3.out Hok.out hl2
    have hrp := fun V hV => rprint_any (w := V) a cap l hV Hok.out hl2
    have hpl : (printP l).length ≤ 400000 := by have := print_len Hok.out hl2 (l.length + 1) (Nat.le_refl _); unfold printP; omega
    generalize printP l = pr at *
    have Hpp := Lib.hid hpp; clear hpp
    have Hrp := Lib.hid hrp; clear hrp
    go_wp2_with fail
    refine Hpp.out.mono ?_
    rintro e w4 ⟨rfl, hb4⟩
    have Hr4 := Lib.hid (Hr3.out.below hb4)
    have Hb4 := Lib.hid (Hb3.out.trans (hb4.mono Hb3.out.size)); clear hb4
    by_cases h2 : 200 < l.length
    · have d2 : decide (200 < (l.length : Int)) = true := decide_eq_true (by omega)
      go_wp2_with fail
      exact bodyPost_ret (results_tmp rfl _ _ _) rfl ⟨rfl, Hb4.out⟩
    · have d2 : decide (200 < (l.length : Int)) = false := decide_eq_false (by omega)
      go_wp2_with fail
      refine (Hrp.out _ (Hr.out.below Hb4.out)).mono ?_
      rintro e w5 ⟨rfl, hb5⟩
      have Hr5 := Lib.hid (Hr4.out.below hb5)
      have Hb5 := Lib.hid (Hb4.out.trans (hb5.mono Hb4.out.size)); clear hb5
      have hsm := same_yes a3 a 0 cap l w5 Hr5.out (Hr.out.below Hb5.out) (by omega)
      have Hsm := Lib.hid hsm; clear hsm
      go_wp2_with fail
      refine Hsm.out.mono ?_
      rintro e w6 ⟨rfl, hb6⟩
      have Hb6 := Lib.hid (Hb5.out.trans (hb6.mono Hb5.out.size)); clear hb6
      go_wp2_with fail
      exact bodyPost_ret (results_tmp rfl _ _ _) rfl ⟨rfl, Hb6.out⟩

theorem slice_weight {H : Type} {enc : TypeId × Value → H} {P : Program} {w : World} {base : Nat} {spare held : _} {t e : TypeId} {fuel : Nat} {a : Option Addr} {len cap : Nat} {x : DataW H × List MemPlace} (ht : P.underlying t = some (.slice e))
    (h : DataW.trod enc P w base spare held fuel t [.slice a len cap] = some x) (hw : ∀ z ∈ x.1.weights P t, z ≤ reachBytes) : len * P.bytesOf e ≤ reachBytes ∧ (a = none → len = 0 ∧ cap = 0) := by
  rcases Deep.open_slice ht h with ⟨h0, _⟩ | ⟨b, l, c, m, n, D, Pl, hcs, _, hl, _, hm, hx, _⟩
  · simp only [List.cons.injEq, Value.slice.injEq, and_true] at h0
    obtain ⟨rfl, rfl, rfl⟩ := h0
    exact ⟨by omega, fun _ => ⟨rfl, rfl⟩⟩
  · simp only [List.cons.injEq, Value.slice.injEq, and_true] at hcs
    obtain ⟨rfl, rfl, rfl⟩ := hcs
    subst hx
    have := hw ((len + (m - len)) * P.bytesOf e) (by simp [DataW.weights, ht])
    have hle : len * P.bytesOf e ≤ (len + (m - len)) * P.bytesOf e := Nat.mul_le_mul_right _ (by omega)
    exact ⟨by omega, fun e => by cases e⟩
/-- Instructions that came in. -/
def instrKinds5 : List CK := [⟨0, .i64⟩, ⟨0, .i64⟩, ⟨0, .i64⟩, ⟨0, .i64⟩, ⟨0, .i64⟩]
theorem instr_mk5 (vs : List Value) (h : Fit instrKinds5 vs) : ∃ x : In, x.cells = vs ∧ x.Ok := by
  have h1 := h.1
  have h2 := h.2
  match vs, h1 with
  | [c0, c1, c2, c3, c4], _ =>
    obtain ⟨x0, rfl, w0⟩ := h2 0 _ _ rfl rfl
    obtain ⟨x1, rfl, w1⟩ := h2 1 _ _ rfl rfl
    obtain ⟨x2, rfl, w2⟩ := h2 2 _ _ rfl rfl
    obtain ⟨x3, rfl, w3⟩ := h2 3 _ _ rfl rfl
    obtain ⟨x4, rfl, w4⟩ := h2 4 _ _ rfl rfl
    have g : ∀ z, (Lit.int .i64 z).wf = true → I64 z := fun z h => by simp [Lit.wf, IntKind.min, IntKind.max, IntKind.signed, IntKind.bits] at h; unfold I64; omega
    exact ⟨⟨x0, x1, x2, x3, x4⟩, rfl, g _ w0, g _ w1, g _ w2, g _ w3, g _ w4⟩
theorem aprints_in (a : Option Addr) (len cap : Nat) (w : World) (hx : Came w a len instrKinds5) (h40 : len * 40 ≤ 140737488355328) (hn : a = none → len = 0 ∧ cap = 0) (h : StdP w) : Calls Tryd.prog 3 #[.slice a len cap] w fun e w' => e = .returned (.bool true) ∧ Below w.heap.size w w' := by
  obtain ⟨l, rfl, hr, hok⟩ := rows_in (Pr := In.Ok) hx (by simp [instrKinds5]) instr_mk5
  cases a with
  | none =>
    obtain ⟨e1, e2⟩ := hn rfl
    exact aprints_none none cap l (by rw [e1, e2]) e1 h hr hok
  | some ad => exact aprints_some ad cap l h hr hok h40

end Go.Proofs.YtndmlnoddnaafaaDoor
