/- Runs of a path that is alone, step by step, as plain facts. No conditions. -/
import Derived.Test.YtgdfiggloifncaaSoftM
namespace Go.Proofs.Ytgdfiggloifncaa

abbrev PM := PV × (Int → Int)
/-- In so many steps one comes from the one to the other. -/
def Runs (k : Nat) (s t : PM) : Prop := ∀ n, finF (n + k) s = finF n t
theorem Runs.refl (s : PM) : Runs 0 s s := fun _ => rfl
theorem Runs.trans {j k : Nat} {s t u : PM} (h : Runs j s t) (g : Runs k t u) : Runs (k + j) s u := fun n => by
  rw [show n + (k + j) = (n + k) + j from by omega, h, g]
theorem Runs.one {s t : PM} (hb : s.1.busy = true) (ht : stepV s = t) : Runs 1 s t := fun n => by
  subst ht
  simp [finF, hb]
theorem Runs.end {k : Nat} {s t : PM} (h : Runs k s t) (hk : k ≤ 3000) (hb : t.1.busy = false) : finF 3000 s = t := by
  rw [show 3000 = (3000 - k) + k from by omega, h, finF_stop hb]

theorem upd_same (m : Int → Int) (a v : Int) : upd m a v a = v := by simp [upd]
theorem upd_other (m : Int → Int) {a b : Int} (v : Int) (h : b ≠ a) : upd m a v b = m b := by simp [upd, h]

section
variable {x : PV} {m : Int → Int}
theorem step_beginN : stepV ({ x with at_ := .beginN }, m) = ({ x with at_ := .beginCas (m 1) }, m) := by simp [stepV, PV.req, PV.give, memV]
theorem step_beginCas {n : Int} (h : m 1 = n) : stepV ({ x with at_ := .beginCas n }, m) = ({ x with at_ := .beginSeq }, upd m 1 (IntKind.u64.wrap (n + 1))) := by simp [stepV, PV.req, PV.give, memV, okV, h]
theorem step_beginSeq (h : m 0 % 2 = 0) : stepV ({ x with at_ := .beginSeq }, m) = ({ x with at_ := .no, snap := m 0, pts := x.pts + 1, live := true }, m) := by simp [stepV, PV.req, PV.give, memV, h]
theorem step_loadWord {a : Int} : stepV ({ x with at_ := .loadWord a }, m) = ({ x with at_ := .loadSeq a (m a) }, m) := by simp [stepV, PV.req, PV.give, memV]
theorem step_loadSeq_ok {a y : Int} (h : m 0 = x.snap) (hb : badR x.log a y = false) : stepV ({ x with at_ := .loadSeq a y }, m) = ({ x with at_ := .no, val := y, pts := x.pts + 1, log := x.log.read a y }, m) := by simp [stepV, PV.req, PV.give, memV, h, hb]
theorem step_loadSeq_bad {a y : Int} (h : m 0 = x.snap) (hb : badR x.log a y = true) : stepV ({ x with at_ := .loadSeq a y }, m) = ({ x with at_ := .leaveN 2 }, m) := by simp [stepV, PV.req, PV.give, memV, h, hb]
theorem step_loadSeq_no {a y : Int} (h : m 0 ≠ x.snap) : stepV ({ x with at_ := .loadSeq a y }, m) = ({ x with at_ := .checkSeq (.fetch a) }, m) := by simp [stepV, PV.req, PV.give, memV, h]
theorem step_checkSeq {t : Th} (h : m 0 % 2 = 0) : stepV ({ x with at_ := .checkSeq t }, m) = ({ x with at_ := .check (m 0) x.log.r t }, m) := by simp [stepV, PV.req, PV.give, memV, h]
theorem step_check_one {t : Th} {g : Int} {q : Pr} {l : List Pr} (h : m q.a = q.v) : stepV ({ x with at_ := .check g (q :: l) t }, m) = ({ x with at_ := .check g l t }, m) := by simp [stepV, PV.req, PV.give, memV, hdA, h]
theorem step_check_off {t : Th} {g : Int} {q : Pr} {l : List Pr} (h : m q.a ≠ q.v) : stepV ({ x with at_ := .check g (q :: l) t }, m) = ({ x with at_ := .leaveN 2 }, m) := by simp [stepV, PV.req, PV.give, memV, hdA, h]
theorem step_check_end {t : Th} {g : Int} (h : m 0 = g) : stepV ({ x with at_ := .check g [] t }, m) = ({ x with at_ := t.at, snap := g, pts := x.pts + 1 }, m) := by simp [stepV, PV.req, PV.give, memV, hdA, h]
theorem step_take (h : m 0 = x.snap) : stepV ({ x with at_ := .take }, m) = ({ x with at_ := .back x.log.w, pts := x.pts + 1, writing := true }, upd m 0 (IntKind.u64.wrap (x.snap + 1))) := by simp [stepV, PV.req, PV.give, memV, okV, h]
theorem step_take_no (h : m 0 ≠ x.snap) : stepV ({ x with at_ := .take }, m) = ({ x with at_ := .checkSeq .sign }, m) := by simp [stepV, PV.req, PV.give, memV, okV, h]
theorem step_back {q : Pr} {l : List Pr} : stepV ({ x with at_ := .back (q :: l) }, m) = ({ x with at_ := .back l }, upd m q.a q.v) := by simp [stepV, PV.req, PV.give, memV, hdA, hdV]
theorem step_back_end : stepV ({ x with at_ := .back [] }, m) = ({ x with at_ := .leaveN 1, writing := false }, upd m 0 (IntKind.u64.wrap (x.snap + 2))) := by simp [stepV, PV.req, PV.give, memV, hdA, hdV]
theorem step_leaveN {how : Int} : stepV ({ x with at_ := .leaveN how }, m) = ({ x with at_ := .leaveCas how (m 1) }, m) := by simp [stepV, PV.req, PV.give, memV]
theorem step_leaveCas {how n : Int} (h : m 1 = n) : stepV ({ x with at_ := .leaveCas how n }, m) = ({ x with at_ := .no, live := false, ended := how }, upd m 1 (IntKind.u64.wrap (n + 18446744073709551615))) := by simp [stepV, PV.req, PV.give, memV, okV, h]

theorem run_begin (h : m 0 % 2 = 0) : Runs 3 ({ x with at_ := .beginN }, m) ({ x with at_ := .no, snap := m 0, pts := x.pts + 1, live := true }, upd m 1 (IntKind.u64.wrap (m 1 + 1))) := by
  refine ((Runs.one rfl step_beginN).trans (Runs.one rfl (step_beginCas (x := x) rfl))).trans (Runs.one rfl ?_)
  have h0 : upd m 1 (IntKind.u64.wrap (m 1 + 1)) 0 = m 0 := upd_other _ _ (by decide)
  rw [step_beginSeq (by rw [h0]; exact h), h0]
theorem run_leave {how : Int} : Runs 2 ({ x with at_ := .leaveN how }, m) ({ x with at_ := .no, live := false, ended := how }, upd m 1 (IntKind.u64.wrap (m 1 + 18446744073709551615))) :=
  (Runs.one rfl step_leaveN).trans (Runs.one rfl (step_leaveCas (x := x) rfl))
theorem run_load {a : Int} (h : m 0 = x.snap) (hb : badR x.log a (m a) = false) : Runs 2 ({ x with at_ := .loadWord a }, m) ({ x with at_ := .no, val := m a, pts := x.pts + 1, log := x.log.read a (m a) }, m) :=
  (Runs.one rfl step_loadWord).trans (Runs.one rfl (step_loadSeq_ok (x := x) h hb))
/-- What writing back makes of memory. -/
def putL (m : Int → Int) : List Pr → Int → Int
  | [] => m
  | q :: l => putL (upd m q.a q.v) l
theorem run_back : ∀ (l : List Pr) (x : PV) (m : Int → Int), Runs l.length ({ x with at_ := .back l }, m) ({ x with at_ := .back [] }, putL m l)
  | [], _, _ => Runs.refl _
  | _ :: l, x, _ => (Runs.one rfl step_back).trans (run_back l x _)
theorem run_commit (h : m 0 = x.snap) : Runs (x.log.w.length + 4) ({ x with at_ := .take }, m)
    ({ x with at_ := .no, pts := x.pts + 1, writing := false, live := false, ended := 1 }, upd (upd (putL (upd m 0 (IntKind.u64.wrap (x.snap + 1))) x.log.w) 0 (IntKind.u64.wrap (x.snap + 2))) 1 (IntKind.u64.wrap (upd (putL (upd m 0 (IntKind.u64.wrap (x.snap + 1))) x.log.w) 0 (IntKind.u64.wrap (x.snap + 2)) 1 + 18446744073709551615))) := by
  have h1 := Runs.one rfl (step_take (x := x) (m := m) h)
  have h2 := run_back x.log.w { x with pts := x.pts + 1, writing := true } (upd m 0 (IntKind.u64.wrap (x.snap + 1)))
  have h3 := Runs.one rfl (step_back_end (x := { x with pts := x.pts + 1, writing := true }) (m := putL (upd m 0 (IntKind.u64.wrap (x.snap + 1))) x.log.w))
  have h4 := run_leave (x := { x with pts := x.pts + 1, writing := false }) (how := 1) (m := upd (putL (upd m 0 (IntKind.u64.wrap (x.snap + 1))) x.log.w) 0 (IntKind.u64.wrap (x.snap + 2)))
  have := ((h1.trans h2).trans h3).trans h4
  rw [show x.log.w.length + 4 = 2 + (1 + (x.log.w.length + 1)) from by omega]
  exact this
end

end Go.Proofs.Ytgdfiggloifncaa
