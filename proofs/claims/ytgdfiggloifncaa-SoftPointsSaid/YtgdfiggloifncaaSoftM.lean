/- Calls that came in; place, begins. Conditions: those stated in each theorem. -/
import Derived.Test.YtgdfiggloifncaaSoftL
import Derived.Test.YtgdfiggloifncaaCame
namespace Go.Proofs.Ytgdfiggloifncaa
open Go.RowKit Go.BigFrame Go.Maps Go.ChangeMaps Go.ChangeShapes Go.WideShapes Go.ChangeAt

/-- A call. -/
structure OpQ where
  kind : Int
  a : Int
  v : Int
  ok : Bool
deriving DecidableEq
def OpQ.cells (x : OpQ) : List Value := [.int .i64 x.kind, .int .i64 x.a, .int .u64 x.v, .bool x.ok]
def OpQ.good (x : OpQ) : Prop := I64 x.kind ∧ I64 x.a ∧ W64 x.v
def opKinds : List CK := [⟨0, .i64⟩, ⟨0, .i64⟩, ⟨0, .u64⟩, ⟨1, .i8⟩]
theorem op_mk (vs : List Value) (h : Fit opKinds vs) : ∃ x : OpQ, x.cells = vs ∧ x.good := by
  obtain ⟨h1, h2⟩ := h
  match vs, h1 with
  | [a, b, c, d], _ =>
    obtain ⟨n, rfl, hn⟩ := h2 0 _ a rfl rfl
    obtain ⟨n2, rfl, hn2⟩ := h2 1 _ b rfl rfl
    obtain ⟨n3, rfl, hn3⟩ := h2 2 _ c rfl rfl
    obtain ⟨b4, rfl⟩ := h2 3 _ d rfl rfl
    exact ⟨⟨n, n2, n3, b4⟩, rfl, hn, hn2, hn3⟩
theorem ops_in {w : World} {a : Option Addr} {len : Nat} (h : Came w a len opKinds) : ∃ xs : List OpQ, xs.length = len ∧ RowsIn w a 4 OpQ.cells xs ∧ ∀ x ∈ xs, x.good := rows_in h (by simp [opKinds]) op_mk

/-- A block known whole. -/
def boxP (b : Nat) (t : TypeId) (L : List Value) : Part := ⟨fun w T => T b ∧ Holds w b t L, fun h ht hC => ⟨h.1, h.2.same (ht.block _ h.2.lt (hC _ h.1))⟩, fun h hT => ⟨hT _ h.2.lt h.1, h.2⟩⟩
section
variable {w0 w w' : World} {l l' : List Part} {i j p b c : Nat} {x y : PV} {m : Int → Int} {P Q M : Part} {t : TypeId} {L : List Value}
theorem Aparts.box (h : Aparts w0 w l) (t : TypeId) (L : List Value) : Aparts w0 (w.alloc (.cells L.toArray t)) (l ++ [boxP w.heap.size t L]) :=
  h.push ((Below.refl _ w).alloc (Nat.le_refl _) _) ⟨⟨Nat.le_refl _, by simp⟩, Holds.new w t L⟩
theorem Aparts.init (h : Aparts w0 w (l ++ [P])) : Aparts w0 w l := by
  obtain ⟨⟨o, h1, h2⟩, h3⟩ := h
  refine ⟨⟨o, h1, fun i P hi => h2 i P ?_⟩, h3⟩
  have : i < l.length := by
    rcases Nat.lt_or_ge i l.length with h | h
    · exact h
    · rw [List.getElem?_eq_none h] at hi; cases hi
  rw [List.getElem?_append_left this]; exact hi
theorem box_a (h : Aparts w0 w l) (hi : l[i]? = some (boxP b t L)) : Holds w b t L := by
  obtain ⟨T, h1, -⟩ := h.get hi
  exact h1.2
theorem app_get (hi : l[i]? = some P) : (l ++ [Q])[i]? = some P := by
  have : i < l.length := by
    rcases Nat.lt_or_ge i l.length with h | h
    · exact h
    · rw [List.getElem?_eq_none h] at hi; cases hi
  rw [List.getElem?_append_left this]; exact hi
theorem app_last : (l ++ [Q])[l.length]? = some Q := by simp
theorem app_set (hi : l[i]? = some P) : (l ++ [Q]).set i M = l.set i M ++ [Q] := by
  have : i < l.length := by
    rcases Nat.lt_or_ge i l.length with h | h
    · exact h
    · rw [List.getElem?_eq_none h] at hi; cases hi
  exact List.set_append_left _ _ this
end

def placeV (a n : Int) : Int := 8 + a % n
set_option maxHeartbeats 400000 in
theorem place_any (w : World) (a n : Int) (h0 : 0 < n) (h9 : n ≤ 1000) (ha : I64 a) : Calls Try.prog 33 #[.int .i64 a, .int .i64 n] w fun e w' => e = .returned (.int .i64 (placeV a n)) ∧ w = w' := by
  have hb := wf_i64_b ha
  have hm := Int.emod_nonneg a (show n ≠ 0 by omega)
  have hm2 := Int.emod_lt_of_pos a h0
  have ht := Int.tmod_eq_emod (a := a) (b := n)
  have hn : decide (n = 0) = false := by simp; omega
  have hab : (n.natAbs : Int) = n := by omega
  unfold placeV
  by_cases hc : 0 ≤ a ∨ n ∣ a
  · rw [if_pos hc] at ht
    have ht2 : a.tmod n = a % n := by omega
    have d1 : decide (a % n < 0) = false := by simp; omega
    clear ht hc
    generalize a % n = r at *
    go_enter Try.func33, Try.ntmps33
    go_wp2
    go_ret
    exact ⟨rfl, rfl⟩
  · rw [if_neg hc] at ht
    have hz : a % n ≠ 0 := fun e => hc (.inr (Int.dvd_of_emod_eq_zero e))
    have ht2 : a.tmod n = a % n - n := by omega
    have d1 : decide (a % n - n < 0) = true := by simp; omega
    have hw : a % n - n + n = a % n := by omega
    clear ht hc
    generalize a % n = r at *
    go_enter Try.func33, Try.ntmps33
    go_wp2
    go_ret
    exact ⟨by simp, rfl⟩
theorem placeV_ok {a n : Int} (h0 : 0 < n) (h9 : n ≤ 1000) : I64 (placeV a n) ∧ 8 ≤ placeV a n ∧ placeV a n < 8 + n := by
  have hm := Int.emod_nonneg a (show n ≠ 0 by omega)
  have hm2 := Int.emod_lt_of_pos a h0
  unfold placeV
  exact ⟨i64_lit (by omega), by omega, by omega⟩

/-- A call that begins an operation. -/
def beginsV (x : PV) (q : OpQ) (n : Int) : PV :=
  if q.kind = 0 then x.begin else if q.kind = 1 then x.load (placeV q.a n) else if q.kind = 2 then x.store (placeV q.a n) q.v else if q.kind = 3 then x.commit else if q.kind = 4 then x.quit else x
theorem beginsV_ok {x : PV} (h : x.ok) {q : OpQ} (hq : q.good) {n : Int} (h0 : 0 < n) (h9 : n ≤ 1000) : (beginsV x q n).ok := by
  have hp := (placeV_ok (a := q.a) h0 h9).1
  unfold beginsV
  split
  · exact PV.begin_ok h
  · split
    · exact PV.load_ok h hp
    · split
      · exact PV.store_ok h hp hq.2.2
      · split
        · exact PV.commit_ok h
        · split
          · exact PV.quit_ok h
          · exact h
theorem beginsV_pts (x : PV) (q : OpQ) (n : Int) : (beginsV x q n).pts = x.pts := by
  unfold beginsV
  split
  · exact PV.begin_pts x
  · split
    · exact PV.load_pts x _
    · split
      · exact PV.store_pts x _ _
      · split
        · exact PV.commit_pts x
        · split
          · exact PV.quit_pts x
          · rfl

section
variable {w0 w w' : World} {l l' : List Part} {i j p b c : Nat} {x y : PV} {m : Int → Int} {P Q M : Part} {t : TypeId} {L : List Value}

set_option maxRecDepth 100000 in
set_option maxHeartbeats 2000000 in
theorem begins_a (h : Aparts w0 w l) (hi : l[i]? = some (pathP p x)) (q : OpQ) (hq : q.good) (n : Int) (h0 : 0 < n) (h9 : n ≤ 1000) (hl : l.set i (pathP p (beginsV x q n)) = l') :
    Calls Try.prog 34 #[.pointer (some ⟨p, 0, none⟩), .agg q.cells.toArray, .int .i64 n] w fun e w' => e = .returned (.tuple #[]) ∧ Aparts w0 w' l' := by
  subst hl
  have hbx := h.box 36 q.cells
  have hiX := app_get (Q := boxP w.heap.size 36 q.cells) hi
  have hh := box_a hbx app_last
  have c0 := hh.cell (i := 0) rfl
  have c1 := hh.cell (i := 1) rfl
  have c2 := hh.cell (i := 2) rfl
  have HPl := Lib.hid (fun V => place_any V q.a n h0 h9 hq.2.1)
  have hpo := placeV_ok (a := q.a) h0 h9
  have HS : Hid (∀ V z, Aparts w0 V (l.set i (pathP p z) ++ [boxP w.heap.size 36 q.cells]) → V.cell? ⟨w.heap.size, 1, none⟩ = some (.int .i64 q.a) ∧ V.cell? ⟨w.heap.size, 2, none⟩ = some (.int .u64 q.v)) := Lib.hid (fun V z hV => by
    have := box_a hV app_last
    exact ⟨this.cell (i := 1) rfl, this.cell (i := 2) rfl⟩)
  have H := Lib.hid hbx
  have Hi := Lib.hid hiX
  have Hs := Lib.hid (fun M => app_set (Q := boxP w.heap.size 36 q.cells) (M := M) hi)
  have Hd : Hid (l.set i (pathP p x) = l) := Lib.hid (by
    apply List.ext_getElem?
    intro j
    rw [List.getElem?_set]
    split
    · rename_i e; subst e
      rw [hi]
      have : i < l.length := by
        rcases Nat.lt_or_ge i l.length with h | h
        · exact h
        · rw [List.getElem?_eq_none h] at hi; cases hi
      simp [this]
    · rfl)
  clear h hbx hiX hh hi
  unfold beginsV
  obtain ⟨kd, qa, qv, qo⟩ := q
  simp only [OpQ.cells] at *
  by_cases k0 : kd = 0
  · subst k0
    simp only [if_true] at *
    have HC := Lib.hid (begin_a H.out Hi.out (Hs.out _))
    go_enter Try.func34, Try.ntmps34
    go_wp2_with (first | (go_at_call 33; refine (HPl.out _).mono ?_; rintro e w' ⟨rfl, rfl⟩) | (go_at_call 15; refine HC.out.mono ?_; rintro e w' ⟨rfl, h⟩; have HE := Lib.hid h; clear h))
    refine ⟨rfl, .tuple #[], (by simp [results, Try.results34, go_sem]), rfl, ?_⟩
    exact HE.out.init
  have d0 : (kd == 0) = false := by simpa using k0
  simp only [k0, if_false] at *
  by_cases k1 : kd = 1
  · subst k1
    simp only [if_true] at *
    have HC := Lib.hid (load_a H.out Hi.out (placeV qa n) hpo.1 (Hs.out _))
    go_enter Try.func34, Try.ntmps34
    go_wp2_with (first | (go_at_call 33; refine (HPl.out _).mono ?_; rintro e w' ⟨rfl, rfl⟩) | (go_at_call 13; refine HC.out.mono ?_; rintro e w' ⟨rfl, h⟩; have HE := Lib.hid h; clear h))
    refine ⟨rfl, .tuple #[], (by simp [results, Try.results34, go_sem]), rfl, ?_⟩
    exact HE.out.init
  have d1 : (kd == 1) = false := by simpa using k1
  simp only [k1, if_false] at *
  by_cases k2 : kd = 2
  · subst k2
    simp only [if_true] at *
    have hT := H.out.idle (below_drew1 (Below.refl _ _))
    have HC : Hid (∀ V, Aparts w0 V (l ++ [boxP w.heap.size 36 [.int .i64 2, .int .i64 qa, .int .u64 qv, .bool qo]]) → Calls Try.prog 17 #[.pointer (some ⟨p, 0, none⟩), .int .i64 (placeV qa n), .int .u64 qv] V fun e w' => e = .returned (.int .i64 (x.errA (placeV qa n))) ∧ Aparts w0 w' (l.set i (pathP p (x.store (placeV qa n) qv)) ++ [boxP w.heap.size 36 [.int .i64 2, .int .i64 qa, .int .u64 qv, .bool qo]])) := Lib.hid (fun V hV => store_a hV Hi.out (placeV qa n) qv hpo.1 hq.2.2 (Hs.out _))
    have HS0 : Hid (∀ V, Aparts w0 V (l ++ [boxP w.heap.size 36 [.int .i64 2, .int .i64 qa, .int .u64 qv, .bool qo]]) → V.cell? ⟨w.heap.size, 1, none⟩ = some (.int .i64 qa) ∧ V.cell? ⟨w.heap.size, 2, none⟩ = some (.int .u64 qv)) := Lib.hid (fun V hV => HS.out V x (by rw [Hd.out]; exact hV))
    go_enter Try.func34, Try.ntmps34
    go_wp2
    generalize w.alloc (.cells #[.int .i64 2, .int .i64 qa, .int .u64 qv, .bool qo] 36) = W at *
    generalize w.heap.size = X at *
    go_region_held3 (fun V => V.cell? ⟨X, 1, none⟩ = some (.int .i64 qa) ∧ V.cell? ⟨X, 2, none⟩ = some (.int .u64 qv)) (first | with_reducible exact HS0.out _ hT | with_reducible exact HS.out _ _ hE) (first | (go_at_call 33; (with_reducible refine (HPl.out _).mono ?_); rintro e V ⟨rfl, rfl⟩) | (go_at_call 17; (with_reducible refine (HC.out _ hT).mono ?_); rintro e V ⟨rfl, hE⟩))
    all_goals
      have HE := Lib.hid hE
      go_wp2
      refine ⟨rfl, .tuple #[], (by simp [results, Try.results34, go_sem]), rfl, ?_⟩
      exact HE.out.init
  have d2 : (kd == 2) = false := by simpa using k2
  simp only [k2, if_false] at *
  by_cases k3 : kd = 3
  · subst k3
    simp only [if_true] at *
    have HC := Lib.hid (commit_a H.out Hi.out (Hs.out _))
    go_enter Try.func34, Try.ntmps34
    go_wp2_with (first | (go_at_call 33; refine (HPl.out _).mono ?_; rintro e w' ⟨rfl, rfl⟩) | (go_at_call 21; refine HC.out.mono ?_; rintro e w' ⟨rfl, h⟩; have HE := Lib.hid h; clear h))
    refine ⟨rfl, .tuple #[], (by simp [results, Try.results34, go_sem]), rfl, ?_⟩
    exact HE.out.init
  have d3 : (kd == 3) = false := by simpa using k3
  simp only [k3, if_false] at *
  by_cases k4 : kd = 4
  · subst k4
    simp only [if_true] at *
    have HC := Lib.hid (quit_a H.out Hi.out (Hs.out _))
    go_enter Try.func34, Try.ntmps34
    go_wp2_with (first | (go_at_call 33; refine (HPl.out _).mono ?_; rintro e w' ⟨rfl, rfl⟩) | (go_at_call 22; refine HC.out.mono ?_; rintro e w' ⟨rfl, h⟩; have HE := Lib.hid h; clear h))
    refine ⟨rfl, .tuple #[], (by simp [results, Try.results34, go_sem]), rfl, ?_⟩
    exact HE.out.init
  have d4 : (kd == 4) = false := by simpa using k4
  simp only [k4, if_false] at *
  go_enter Try.func34, Try.ntmps34
  go_wp2
  refine ⟨rfl, .tuple #[], (by simp [results, Try.results34, go_sem]), rfl, ?_⟩
  rw [Hd.out]
  exact H.out.init
end

end Go.Proofs.Ytgdfiggloifncaa
