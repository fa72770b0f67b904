/- Where a library's words stand: a pool's functions. Conditions: those stated in each theorem. -/
import Derived.Test.YthjbcpgncnchoaaLbA
namespace Go.Proofs.Ythjbcpgncnchoaa
open Go.RowKit Go.BigFrame

def Pl.links (p : Pl) : Int := p.width - 2
def Pl.keyAt (p : Pl) : Int := p.width - 2
def Pl.valueAt (p : Pl) : Int := p.width - 2 + 1
def Pl.nodes (p : Pl) : Int := p.base + 2 + p.roots
def Pl.end_ (p : Pl) : Int := p.base + 2 + p.roots + p.width * p.many
def Pl.mayBe (p : Pl) : Bool := decide (0 ≤ p.base) && decide (p.base ≤ 504) && decide (1 ≤ p.many) && decide (p.many ≤ 504) && decide (p.end_ ≤ 504)
def Pl.size (p : Pl) : Int := if p.mayBe then p.end_ - p.base else 0
theorem box4 (w : World) (P : Pl) : Holds (w.alloc (.cells #[.int .i64 P.base, .int .i64 P.roots, .int .i64 P.width, .int .i64 P.many] 68)) w.heap.size 68 P.cells := Holds.new w 68 P.cells

set_option maxRecDepth 100000 in
theorem links_any (P : Pl) (hP : P.Ok) (w : World) : Calls Try.prog 88 #[P.val] w fun e w' => e = .returned (.int .i64 P.links) ∧ Below w.heap.size w w' := by
  have hb := (box4 w P).cell (i := 0) rfl
  have hr := (box4 w P).cell (i := 1) rfl
  have hw := (box4 w P).cell (i := 2) rfl
  have hm := (box4 w P).cell (i := 3) rfl
  obtain ⟨pb, pr, pw, pm⟩ := P
  obtain ⟨h1, h2, h3, h4, h5, h6, h7, h8⟩ := hP
  simp only at *
  go_enter Try.func88, Try.ntmps88
  unfold Pl.val
  go_wp2
  refine bodyPost_ret (results_tmp rfl _ _ _) rfl ⟨rfl, (Below.refl _ w).alloc (Nat.le_refl _) _⟩

set_option maxRecDepth 100000 in
theorem nodes_any (P : Pl) (hP : P.Ok) (w : World) : Calls Try.prog 78 #[P.val] w fun e w' => e = .returned (.int .i64 P.nodes) ∧ Below w.heap.size w w' := by
  have hb := (box4 w P).cell (i := 0) rfl
  have hr := (box4 w P).cell (i := 1) rfl
  have hw := (box4 w P).cell (i := 2) rfl
  have hm := (box4 w P).cell (i := 3) rfl
  obtain ⟨pb, pr, pw, pm⟩ := P
  obtain ⟨h1, h2, h3, h4, h5, h6, h7, h8⟩ := hP
  simp only at *
  go_enter Try.func78, Try.ntmps78
  unfold Pl.val
  go_wp2
  refine bodyPost_ret (results_tmp rfl _ _ _) rfl ⟨rfl, (Below.refl _ w).alloc (Nat.le_refl _) _⟩

set_option maxRecDepth 100000 in
theorem countAt_any (P : Pl) (hP : P.Ok) (w : World) : Calls Try.prog 71 #[P.val] w fun e w' => e = .returned (.int .i64 (P.base + 1)) ∧ Below w.heap.size w w' := by
  have hb := (box4 w P).cell (i := 0) rfl
  have hr := (box4 w P).cell (i := 1) rfl
  have hw := (box4 w P).cell (i := 2) rfl
  have hm := (box4 w P).cell (i := 3) rfl
  obtain ⟨pb, pr, pw, pm⟩ := P
  obtain ⟨h1, h2, h3, h4, h5, h6, h7, h8⟩ := hP
  simp only at *
  go_enter Try.func71, Try.ntmps71
  unfold Pl.val
  go_wp2
  refine bodyPost_ret (results_tmp rfl _ _ _) rfl ⟨rfl, (Below.refl _ w).alloc (Nat.le_refl _) _⟩

set_option maxRecDepth 100000 in
theorem firstAt_any (P : Pl) (hP : P.Ok) (w : World) : Calls Try.prog 74 #[P.val] w fun e w' => e = .returned (.int .i64 P.base) ∧ Below w.heap.size w w' := by
  have hb := (box4 w P).cell (i := 0) rfl
  have hr := (box4 w P).cell (i := 1) rfl
  have hw := (box4 w P).cell (i := 2) rfl
  have hm := (box4 w P).cell (i := 3) rfl
  obtain ⟨pb, pr, pw, pm⟩ := P
  obtain ⟨h1, h2, h3, h4, h5, h6, h7, h8⟩ := hP
  simp only at *
  go_enter Try.func74, Try.ntmps74
  unfold Pl.val
  go_wp2
  refine bodyPost_ret (results_tmp rfl _ _ _) rfl ⟨rfl, (Below.refl _ w).alloc (Nat.le_refl _) _⟩

set_option maxRecDepth 100000 in
theorem freeAt_any (P : Pl) (hP : P.Ok) (w : World) : Calls Try.prog 104 #[P.val] w fun e w' => e = .returned (.int .i64 P.base) ∧ Below w.heap.size w w' := by
  have hb := (box4 w P).cell (i := 0) rfl
  have hr := (box4 w P).cell (i := 1) rfl
  have hw := (box4 w P).cell (i := 2) rfl
  have hm := (box4 w P).cell (i := 3) rfl
  obtain ⟨pb, pr, pw, pm⟩ := P
  obtain ⟨h1, h2, h3, h4, h5, h6, h7, h8⟩ := hP
  simp only at *
  go_enter Try.func104, Try.ntmps104
  unfold Pl.val
  go_wp2
  refine bodyPost_ret (results_tmp rfl _ _ _) rfl ⟨rfl, (Below.refl _ w).alloc (Nat.le_refl _) _⟩

set_option maxRecDepth 100000 in
theorem usedAt_any (P : Pl) (hP : P.Ok) (w : World) : Calls Try.prog 106 #[P.val] w fun e w' => e = .returned (.int .i64 (P.base + 1)) ∧ Below w.heap.size w w' := by
  have hb := (box4 w P).cell (i := 0) rfl
  have hr := (box4 w P).cell (i := 1) rfl
  have hw := (box4 w P).cell (i := 2) rfl
  have hm := (box4 w P).cell (i := 3) rfl
  obtain ⟨pb, pr, pw, pm⟩ := P
  obtain ⟨h1, h2, h3, h4, h5, h6, h7, h8⟩ := hP
  simp only at *
  go_enter Try.func106, Try.ntmps106
  unfold Pl.val
  go_wp2
  refine bodyPost_ret (results_tmp rfl _ _ _) rfl ⟨rfl, (Below.refl _ w).alloc (Nat.le_refl _) _⟩

set_option maxRecDepth 100000 in
theorem keyAt_any (P : Pl) (hP : P.Ok) (w : World) : Calls Try.prog 89 #[P.val] w fun e w' => e = .returned (.int .i64 P.keyAt) ∧ Below w.heap.size w w' := by
  have hb := (box4 w P).cell (i := 0) rfl
  have hr := (box4 w P).cell (i := 1) rfl
  have hw := (box4 w P).cell (i := 2) rfl
  have hm := (box4 w P).cell (i := 3) rfl
  have HC := Lib.hid (fun W => links_any P hP W)
  obtain ⟨pb, pr, pw, pm⟩ := P
  obtain ⟨h1, h2, h3, h4, h5, h6, h7, h8⟩ := hP
  simp only [Pl.val, Pl.links, Pl.keyAt] at *
  go_enter Try.func89, Try.ntmps89
  go_wp2_with (go_at_call 88; refine (HC.out _).mono ?_; rintro e w2 ⟨rfl, h⟩; have HB := Lib.hid h; clear h)
  refine bodyPost_ret (results_tmp rfl _ _ _) rfl ⟨rfl, ((Below.refl _ w).alloc (Nat.le_refl _) _).trans (HB.out.mono (by simp))⟩

set_option maxRecDepth 100000 in
theorem valueAt_any (P : Pl) (hP : P.Ok) (w : World) : Calls Try.prog 84 #[P.val] w fun e w' => e = .returned (.int .i64 P.valueAt) ∧ Below w.heap.size w w' := by
  have hb := (box4 w P).cell (i := 0) rfl
  have hr := (box4 w P).cell (i := 1) rfl
  have hw := (box4 w P).cell (i := 2) rfl
  have hm := (box4 w P).cell (i := 3) rfl
  have HC := Lib.hid (fun W => keyAt_any P hP W)
  obtain ⟨pb, pr, pw, pm⟩ := P
  obtain ⟨h1, h2, h3, h4, h5, h6, h7, h8⟩ := hP
  simp only [Pl.val, Pl.links, Pl.keyAt] at *
  go_enter Try.func84, Try.ntmps84
  go_wp2_with (go_at_call 89; refine (HC.out _).mono ?_; rintro e w2 ⟨rfl, h⟩; have HB := Lib.hid h; clear h)
  refine bodyPost_ret (results_tmp rfl _ _ _) rfl ⟨rfl, ((Below.refl _ w).alloc (Nat.le_refl _) _).trans (HB.out.mono (by simp))⟩

end Go.Proofs.Ythjbcpgncnchoaa
