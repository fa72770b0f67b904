/- The chapter's examples: where the walk stands. Conditions: those stated in each theorem. -/
import Derived.Test.YthjbcpgncnchoaaNmA
import Derived.Test.YthjbcpgncnchoaaJnA
import Derived.Test.YthjbcpgncnchoaaLbS
namespace Go.Proofs.Ythjbcpgncnchoaa
open Go.RowKit Go.BigFrame

theorem owns_tch {W V : World} {N mb n : Nat} {e : TypeId} {size : Nat} {v : Value} {xs : List Value} (h : W.ownsRow N e size v n xs) (hN : mb < N) (ht : Tch (· = mb) W V) : V.ownsRow N e size v n xs :=
  owns_same h (fun g e => ht.block g (owns_lt h e).2 (fun e2 => by have := (owns_lt h e).1; omega))
/-- The first part: a queue's memory, the row of values. -/
structure Qs (w W : World) (ab : Nat) (m : List Int) : Prop where
  m : Holds W w.heap.size 24 (memC m)
  a : Holds W ab 24 [.int .u64 7, .int .u64 8, .int .u64 9]
  lt : w.heap.size < ab
  below : Below w.heap.size w W
theorem Qs.idle {w W V : World} {ab : Nat} {m : List Int} (h : Qs w W ab m) (hb : Below W.heap.size W V) : Qs w V ab m := ⟨h.m.below hb, h.a.below hb, h.lt, h.below.trans (hb.mono h.below.size)⟩
theorem Qs.alloc {w W : World} {ab : Nat} {m : List Int} (h : Qs w W ab m) (o : Obj) : Qs w (W.alloc o) ab m := h.idle ((Below.refl _ W).alloc (Nat.le_refl _) o)
theorem Qs.ans {w W V : World} {ab : Nat} {m m' : List Int} (h : Qs w W ab m) (hm : Holds V w.heap.size 24 (memC m')) (ht : Tch (· = w.heap.size) W V) : Qs w V ab m' :=
  ⟨hm, ht.holds (fun e => by have := h.lt; omega) h.a, h.lt, h.below.trans (ht.below h.below.size (fun k e => by rw [e]; exact Nat.le_refl _))⟩
/-- The other parts: a memory behind a box. -/
structure Hs (w W : World) (mh bx : Nat) (m : List Int) : Prop where
  m : Holds W mh 24 (memC m)
  x : Holds W bx 45 [.slice (some ⟨mh, 0, none⟩) 504 504]
  lo : w.heap.size ≤ mh
  below : Below w.heap.size w W
theorem Hs.idle {w W V : World} {mh bx : Nat} {m : List Int} (h : Hs w W mh bx m) (hb : Below W.heap.size W V) : Hs w V mh bx m := ⟨h.m.below hb, h.x.below hb, h.lo, h.below.trans (hb.mono h.below.size)⟩
theorem Hs.ans {w W V : World} {mh bx : Nat} {m m' : List Int} (h : Hs w W mh bx m) (hm : Holds V mh 24 (memC m')) (ht : Tch (· = mh) W V) : Hs w V mh bx m' :=
  ⟨hm, ht.holds (fun e => by subst e; exact absurd rfl (h.x.ne h.m (by decide))) h.x, h.lo, h.below.trans (ht.below h.below.size (fun k e => by have := h.lo; omega))⟩
theorem Hs.new {w W : World} (hb : Below w.heap.size w W) : Hs w ((W.alloc (.cells (memC mem0).toArray 24)).alloc (.cells #[.slice (some ⟨W.heap.size, 0, none⟩) 504 504] 45)) W.heap.size (W.heap.size + 1) mem0 :=
  ⟨(Holds.new W 24 (memC mem0)).alloc _, by have h := Holds.new (W.alloc (.cells (memC mem0).toArray 24)) 45 [.slice (some ⟨W.heap.size, 0, none⟩) 504 504]; simpa using h, hb.size, (hb.alloc hb.size _).alloc (hb.alloc hb.size _).size _⟩
theorem joinP_le : ∀ (ls : List (List In)) (a : List In), (∀ l ∈ ls, l.length ≤ 2000) → (ls.foldl joinA a).length ≤ a.length + 2000 * ls.length
  | [], a, _ => by simp
  | l :: ls, a, h => by
    have h1 := joinP_le ls (joinA a l) (fun x hx => h x (List.mem_cons_of_mem _ hx))
    have h2 := h l (List.mem_cons_self ..)
    simp only [List.foldl_cons, List.length_cons]
    have h3 : (joinA a l).length = a.length + l.length := by simp [joinA]
    omega
theorem joinP_take {ls : List (List In)} (h : ∀ l ∈ ls, l.length ≤ 2000) (k : Nat) : (joinP (ls.take k)).length ≤ 2000 * k := by
  have h1 := joinP_le (ls.take k) [] (fun l hl => h l (List.mem_of_mem_take hl))
  have h2 : (ls.take k).length ≤ k := by rw [List.length_take]; omega
  unfold joinP
  simp only [List.length_nil] at h1
  omega
def jnL : List (List In) := [[⟨13, 0, 0, 0, 0⟩, ⟨1, 0, 0, 0, 0⟩], [⟨13, 0, 0, 0, 1⟩]]
theorem jn_small : ∀ l ∈ jnL, l.length ≤ 2000 := by decide
theorem jn_out : joinP jnL = [⟨13, 0, 0, 0, 0⟩, ⟨1, 0, 0, 0, 0⟩, ⟨13, 0, 0, 0, 3⟩] := by decide +kernel

def Lok (w : World) (x : Value) (W : World) : Prop := ∃ ab, (x = .int .i64 0 ∧ Qs w W ab mem0) ∨ (x = .int .i64 1 ∧ Qs w W ab mq1) ∨ (x = .int .i64 2 ∧ Qs w W ab mq2) ∨ (x = .int .i64 3 ∧ Qs w W ab mq3)

end Go.Proofs.Ythjbcpgncnchoaa
