/- The chapter's examples: closed runs. Conditions: those stated in each theorem. -/
import Derived.Test.YthjbcpgncnchoaaLbW
namespace Go.Proofs.Ythjbcpgncnchoaa
open Go.RowKit Go.BigFrame

def okM (m : List Int) : Bool := m.length == 504 && m.all (fun v => decide (0 ≤ v) && decide (v < 18446744073709551616))
def checkR (l : List In) (m : List Int) (a b c : Int) : Bool := decide (l.length ≤ 1024) && (ranP l m).fine && (ranP l m).regs.x0 == a && (ranP l m).regs.x1 == b && (ranP l m).regs.x2 == c && okM (ranP l m).mem
/-- A code's run over a memory. -/
structure RunM (l : List In) (m : List Int) (a b c : Int) (m' : List Int) : Prop where
  len : l.length ≤ 1024
  ans : ansP (ranP l m) = .agg #[.int .u64 a, .int .u64 b, .int .u64 c]
  mem : (ranP l m).mem = m'
  ok : okM m' = true
theorem run_of {l : List In} {m : List Int} {a b c : Int} (h : checkR l m a b c = true) : RunM l m a b c (ranP l m).mem := by
  unfold checkR at h
  simp only [Bool.and_eq_true, decide_eq_true_eq, beq_iff_eq] at h
  obtain ⟨⟨⟨⟨⟨h1, h2⟩, h3⟩, h4⟩, h5⟩, h6⟩ := h
  exact ⟨h1, by unfold ansP; rw [h2, h3, h4, h5]; rfl, rfl, h6⟩
abbrev q7 : List In := (codeQPush (queueP 0 2) 7).out
abbrev q8 : List In := (codeQPush (queueP 0 2) 8).out
abbrev q9 : List In := (codeQPush (queueP 0 2) 9).out
abbrev qP : List In := (codeQPop (queueP 0 2)).out
def mq1 : List Int := (ranP q7 mem0).mem
def mq2 : List Int := (ranP q8 mq1).mem
def mq3 : List Int := (ranP q9 mq2).mem
def mq4 : List Int := (ranP qP mq3).mem
def mq5 : List Int := (ranP qP mq4).mem
def mq6 : List Int := (ranP qP mq5).mem
abbrev h56 : List In := (codeHPut (hashP 0 1 1) 5 6).out
abbrev h57 : List In := (codeHPut (hashP 0 1 1) 5 7).out
abbrev h61 : List In := (codeHPut (hashP 0 1 1) 6 1).out
abbrev hC : List In := (codeHCut (hashP 0 1 1) 5).out
abbrev hG : List In := (codeHGet (hashP 0 1 1) 5).out
def mh1 : List Int := (ranP h56 mem0).mem
def mh2 : List Int := (ranP h57 mh1).mem
def mh3 : List Int := (ranP h61 mh2).mem
def mh4 : List Int := (ranP hC mh3).mem
def mh5 : List Int := (ranP hG mh4).mem
abbrev t51 : List In := (codeTPut (treeP 0 3) 5 1).out
abbrev tM2 : List In := (codeTPut (treeP 0 3) 18446744073709551615 2).out
abbrev t34 : List In := (codeTPut (treeP 0 3) 3 4).out
abbrev tL : List In := (codeTLeast (treeP 0 3)).out
abbrev tC : List In := (codeTCut (treeP 0 3) 3).out
abbrev tG : List In := (codeTGet (treeP 0 3) 18446744073709551615).out
def mt1 : List Int := (ranP t51 mem0).mem
def mt2 : List Int := (ranP tM2 mt1).mem
def mt3 : List Int := (ranP t34 mt2).mem
def mt4 : List Int := (ranP tL mt3).mem
def mt5 : List Int := (ranP tC mt4).mem
def mt6 : List Int := (ranP tL mt5).mem
def mt7 : List Int := (ranP tG mt6).mem
set_option maxRecDepth 1000000
theorem rq1 : RunM q7 mem0 1 0 0 mq1 := run_of (by decide +kernel)
theorem rq2 : RunM q8 mq1 1 0 0 mq2 := run_of (by decide +kernel)
theorem rq3 : RunM q9 mq2 0 0 0 mq3 := run_of (by decide +kernel)
theorem rq4 : RunM qP mq3 1 7 0 mq4 := run_of (by decide +kernel)
theorem rq5 : RunM qP mq4 1 8 0 mq5 := run_of (by decide +kernel)
theorem rq6 : RunM qP mq5 0 0 0 mq6 := run_of (by decide +kernel)
theorem rh1 : RunM h56 mem0 1 0 0 mh1 := run_of (by decide +kernel)
theorem rh2 : RunM h57 mh1 2 6 0 mh2 := run_of (by decide +kernel)
theorem rh3 : RunM h61 mh2 0 0 0 mh3 := run_of (by decide +kernel)
theorem rh4 : RunM hC mh3 1 7 0 mh4 := run_of (by decide +kernel)
theorem rh5 : RunM hG mh4 0 0 0 mh5 := run_of (by decide +kernel)
theorem rt1 : RunM t51 mem0 1 0 0 mt1 := run_of (by decide +kernel)
theorem rt2 : RunM tM2 mt1 1 0 0 mt2 := run_of (by decide +kernel)
theorem rt3 : RunM t34 mt2 1 0 0 mt3 := run_of (by decide +kernel)
theorem rt4 : RunM tL mt3 1 3 4 mt4 := run_of (by decide +kernel)
theorem rt5 : RunM tC mt4 1 4 0 mt5 := run_of (by decide +kernel)
theorem rt6 : RunM tL mt5 1 5 1 mt6 := run_of (by decide +kernel)
theorem rt7 : RunM tG mt6 1 2 0 mt7 := run_of (by decide +kernel)
theorem mays : (queueP 0 2).mayBe = true ∧ (hashP 0 1 1).mayBe = true ∧ (treeP 0 3).mayBe = true ∧ (queueP 501 2).mayBe = false ∧ (queueP 500 2).mayBe = true ∧ (hashP 0 3 1).mayBe = false ∧ (treeP 0 125).size = 503 ∧ (treeP 0 126).size = 0 := by decide +kernel
theorem mem0_ok : okM mem0 = true := by decide +kernel

/-- 'answers' at a memory that is known. -/
theorem ans_run {W : World} {mb N : Nat} {m m' : List Int} {l : List In} {a b c : Int} {ad : Option Addr} {cap : Nat} (hr : RunM l m a b c m') (hm : okM m = true) (h : Holds W mb 24 (memC m)) (hrow : W.ownsRow N 40 5 (.slice ad l.length cap) l.length (flatI l)) (hN : mb < N) :
    Calls Try.prog 22 #[.slice ad l.length cap, .slice (some ⟨mb, 0, none⟩) 504 504] W fun e w' => e = .returned (.agg #[.int .u64 a, .int .u64 b, .int .u64 c]) ∧ Holds w' mb 24 (memC m') ∧ Tch (· = mb) W w' := by
  simp only [okM, Bool.and_eq_true, beq_iff_eq] at hm
  have := answers_any ad cap l mb m W (rows_code hrow) (row_apart hrow hN) hr.len h hm.1 (all_u hm.2)
  rw [hr.ans] at this
  exact this.mono fun e w' hh => ⟨hh.1, hr.mem ▸ hh.2.1, hh.2.2⟩

end Go.Proofs.Ythjbcpgncnchoaa
