/- Two paths that clash, as plain facts. No conditions. -/
import Derived.Test.YtjdmbiljaoiphaaSoftS
namespace Go.Proofs.Ytjdmbiljaoiphaa

def X1 : PV := ⟨.no, 6, 0, 1, true, false, 0, Lg.zero⟩
def X2 (a y : Int) : PV := ⟨.no, 6, y, 2, true, false, 0, ⟨[⟨a, y⟩], []⟩⟩
def Y3 (a v : Int) : PV := ⟨.no, 6, 0, 2, false, false, 1, ⟨[], [⟨a, v⟩]⟩⟩
theorem cl_begin {M : Int → Int} {n : Int} (h0 : M 0 = 6) (h1 : M 1 = n) (hn : 0 ≤ n ∧ n ≤ 1000) : finF 3000 (PV.zero.begin, M) = (X1, upd M 1 (n + 1)) := by
  have h := (run_begin (x := { PV.zero with val := 0, ended := 0, log := Lg.zero }) (m := M) (by rw [h0]; rfl)).end (by omega) rfl
  rw [h0, h1] at h
  have hw : IntKind.u64.wrap (n + 1) = n + 1 := by simp [IntKind.wrap, IntKind.bits, IntKind.signed]; omega
  rw [hw] at h
  exact h
theorem cl_load {M : Int → Int} {a : Int} (h0 : M 0 = 6) (h8 : 8 ≤ a) : finF 3000 (X1.load a, M) = (X2 a (M a), M) := by
  have hl : X1.load a = { X1 with at_ := .loadWord a } := by
    unfold PV.load
    rw [if_neg (show ¬ (X1.errA a ≠ 0) from by simp [PV.errA, PV.shut, X1]; omega), if_neg (by simp [X1, Lg.zero, hasL, posL])]
  rw [hl]
  have h := (run_load (x := X1) (m := M) (a := a) h0 (by simp [badR, X1, Lg.zero, hasL, posL, errRead]; omega)).end (by omega) rfl
  rw [h]
  simp [X1, X2, Lg.read, readL, Lg.zero, posL]
  omega
/-- Behind a commit of one word. -/
theorem cl_commit {M : Int → Int} {a v : Int} (h0 : M 0 = 6) (h1 : M 1 = 2) (h8 : 8 ≤ a) : finF 3000 ((X1.store a v).commit, M) = (Y3 a v, upd (upd (upd (upd M 0 7) a v) 0 8) 1 1) := by
  have hs : X1.store a v = { X1 with log := ⟨[], [⟨a, v⟩]⟩ } := by
    unfold PV.store
    rw [if_neg (show ¬ (X1.errA a ≠ 0) from by simp [PV.errA, PV.shut, X1]; omega), if_neg (show ¬ (errRead X1.log.w a ≠ 0) from by simp [X1, Lg.zero, errRead, posL]; omega)]
    simp [X1, Lg.write, writeL, Lg.zero, posL]
    omega
  have hc : (X1.store a v).commit = { X1 with log := ⟨[], [⟨a, v⟩]⟩, at_ := .take } := by
    rw [hs]; simp [PV.commit, PV.shut, X1]
  rw [hc]
  have h := (run_commit (x := { X1 with log := ⟨[], [⟨a, v⟩]⟩ }) (m := M) h0).end (by simp) rfl
  rw [h]
  have e1 : upd (putL (upd M 0 (IntKind.u64.wrap (6 + 1))) [⟨a, v⟩]) 0 (IntKind.u64.wrap (6 + 2)) 1 = 2 := by
    simp [putL, upd, h1]; omega
  have e2 : IntKind.u64.wrap (6 + 1) = 7 := by decide
  have e3 : IntKind.u64.wrap (6 + 2) = 8 := by decide
  have e4 : IntKind.u64.wrap (2 + 18446744073709551615) = 1 := by decide
  simp only [X1, Y3, putL] at *
  rw [e1, e2, e3, e4]
  rfl
theorem leave_end {x : PV} {M : Int → Int} {how : Int} {k : Nat} {s : PM} (h : Runs k s ({ x with at_ := .leaveN how }, M)) (hk : k ≤ 100) (h1 : M 1 = 1) : finF 3000 s = ({ x with at_ := .no, live := false, ended := how }, upd M 1 0) := by
  have := (h.trans (run_leave (x := x) (how := how) (m := M))).end (by omega) rfl
  rw [h1, show IntKind.u64.wrap (1 + 18446744073709551615) = 0 from by decide] at this
  exact this
/-- What a path that has read y at a meets when it looks anew. -/
theorem cl_off {x : PV} {M : Int → Int} {a y : Int} {t : Th} (hr : x.log.r = [⟨a, y⟩]) (h0 : M 0 = 8) (hn : M a ≠ y) : Runs 2 ({ x with at_ := .checkSeq t }, M) ({ x with at_ := .leaveN 2 }, M) := by
  have h1 : stepV ({ x with at_ := .checkSeq t }, M) = ({ x with at_ := .check 8 [⟨a, y⟩] t }, M) := by rw [step_checkSeq (by rw [h0]; rfl), h0, hr]
  exact (Runs.one rfl h1).trans (Runs.one rfl (step_check_off (x := x) (q := ⟨a, y⟩) hn))
theorem cl_on {x : PV} {M : Int → Int} {a y : Int} {t : Th} (hr : x.log.r = [⟨a, y⟩]) (h0 : M 0 = 8) (hn : M a = y) : Runs 3 ({ x with at_ := .checkSeq t }, M) ({ x with at_ := t.at, snap := 8, pts := x.pts + 1 }, M) := by
  have h1 : stepV ({ x with at_ := .checkSeq t }, M) = ({ x with at_ := .check 8 [⟨a, y⟩] t }, M) := by rw [step_checkSeq (by rw [h0]; rfl), h0, hr]
  exact ((Runs.one rfl h1).trans (Runs.one rfl (step_check_one (x := x) (q := ⟨a, y⟩) hn))).trans (Runs.one rfl (step_check_end (x := x) h0))
section
variable {M : Int → Int} {a b y v : Int}
theorem ld_b (h8 : 8 ≤ b) : (X2 a y).load b = { X2 a y with at_ := .loadWord b } := by
  unfold PV.load
  rw [if_neg (show ¬ ((X2 a y).errA b ≠ 0) from by simp [PV.errA, PV.shut, X2]; omega), if_neg (by simp [X2, hasL, posL])]
theorem cl_load_off (h0 : M 0 = 8) (h1 : M 1 = 1) (hn : M a ≠ y) (h8 : 8 ≤ b) : finF 3000 ((X2 a y).load b, M) = ({ X2 a y with live := false, ended := 2 }, upd M 1 0) := by
  rw [ld_b h8]
  have k1 := Runs.one rfl (step_loadWord (x := X2 a y) (m := M) (a := b))
  have k2 := Runs.one rfl (step_loadSeq_no (x := X2 a y) (m := M) (a := b) (y := M b) (by rw [h0]; exact (by decide : (8 : Int) ≠ 6)))
  exact leave_end (((k1.trans k2).trans (cl_off (x := X2 a y) rfl h0 hn))) (by omega) h1
theorem cl_load_on (h0 : M 0 = 8) (hn : M a = y) (h8 : 8 ≤ b) : ∃ z, finF 3000 ((X2 a y).load b, M) = (z, M) ∧ z.at_ = .no ∧ z.live = true ∧ z.val = M b := by
  rw [ld_b h8]
  have k1 := Runs.one rfl (step_loadWord (x := X2 a y) (m := M) (a := b))
  have k2 := Runs.one rfl (step_loadSeq_no (x := X2 a y) (m := M) (a := b) (y := M b) (by rw [h0]; exact (by decide : (8 : Int) ≠ 6)))
  have k3 := cl_on (x := X2 a y) (M := M) (t := .fetch b) rfl h0 hn
  have k4 := run_load (x := { X2 a y with snap := 8, pts := (X2 a y).pts + 1 }) (m := M) (a := b) h0 (by
    by_cases e : b = a
    · subst e; simp [badR, X2, hasL, valL, posL, errRead, hn]; omega
    · have : ¬ a = b := fun e2 => e e2.symm
      simp [badR, X2, hasL, posL, errRead, this]; omega)
  exact ⟨_, (((k1.trans k2).trans k3).trans k4).end (by omega) rfl, rfl, rfl, rfl⟩
theorem st_b (h8 : 8 ≤ b) : ((X2 a y).store b v).commit = { X2 a y with log := ⟨[⟨a, y⟩], [⟨b, v⟩]⟩, at_ := .take } := by
  have hs : (X2 a y).store b v = { X2 a y with log := ⟨[⟨a, y⟩], [⟨b, v⟩]⟩ } := by
    unfold PV.store
    rw [if_neg (show ¬ ((X2 a y).errA b ≠ 0) from by simp [PV.errA, PV.shut, X2]; omega), if_neg (show ¬ (errRead (X2 a y).log.w b ≠ 0) from by simp [X2, errRead, posL]; omega)]
    simp [X2, Lg.write, writeL, posL]
    omega
  rw [hs]; simp [PV.commit, PV.shut, X2]
theorem cl_store_off (h0 : M 0 = 8) (h1 : M 1 = 1) (hn : M a ≠ y) (h8 : 8 ≤ b) : finF 3000 (((X2 a y).store b v).commit, M) = ({ X2 a y with log := ⟨[⟨a, y⟩], [⟨b, v⟩]⟩, live := false, ended := 2 }, upd M 1 0) := by
  rw [st_b h8]
  have k1 := Runs.one rfl (step_take_no (x := { X2 a y with log := ⟨[⟨a, y⟩], [⟨b, v⟩]⟩ }) (m := M) (by rw [h0]; exact (by decide : (8 : Int) ≠ 6)))
  exact leave_end (k1.trans (cl_off (x := { X2 a y with log := ⟨[⟨a, y⟩], [⟨b, v⟩]⟩ }) rfl h0 hn)) (by omega) h1
theorem cl_store_on (h0 : M 0 = 8) (h1 : M 1 = 1) (hn : M a = y) (h8 : 8 ≤ b) : ∃ z M', finF 3000 (((X2 a y).store b v).commit, M) = (z, M') ∧ z.at_ = .no ∧ z.ended = 1 ∧ M' b = v ∧ M' 0 = 10 ∧ M' 1 = 0 := by
  rw [st_b h8]
  have k1 := Runs.one rfl (step_take_no (x := { X2 a y with log := ⟨[⟨a, y⟩], [⟨b, v⟩]⟩ }) (m := M) (by rw [h0]; exact (by decide : (8 : Int) ≠ 6)))
  have k2 := cl_on (x := { X2 a y with log := ⟨[⟨a, y⟩], [⟨b, v⟩]⟩ }) (M := M) (t := .sign) rfl h0 hn
  have k3 := run_commit (x := { X2 a y with log := ⟨[⟨a, y⟩], [⟨b, v⟩]⟩, snap := 8, pts := (X2 a y).pts + 1 }) (m := M) h0
  refine ⟨_, _, ((k1.trans k2).trans k3).end (by simp) rfl, rfl, rfl, ?_, ?_, ?_⟩
  · have e1 : b ≠ 1 := by omega
    have e2 : b ≠ 0 := by omega
    simp [putL, upd, e1, e2]
  · simp [upd]
    decide
  · have e1 : (1 : Int) ≠ b := by omega
    simp [putL, upd, e1, h1]
    decide
end

end Go.Proofs.Ytjdmbiljaoiphaa
