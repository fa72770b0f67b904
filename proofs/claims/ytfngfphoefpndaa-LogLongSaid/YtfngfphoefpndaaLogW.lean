/- Where the walk of two logs stands: the log, the document's, the kept lists. Conditions: those stated in each theorem. -/
import Derived.Test.YtfngfphoefpndaaLogV
import Derived.Test.YtfngfphoefpndaaLogJ
namespace Go.Proofs.Ytfngfphoefpndaa
open Go.RowKit Go.BigFrame Go.Maps

structure PO (w0 w : World) (S K R : Nat → Prop) (rv wv : Value) (X : Option Nat) (L : List Value) (a q t : Nat) (f g : Lg) (n : Nat) : Prop where
  lg : LgAt w S a f
  kp : KpAt w K t n
  rf : RfAt w q rv wv g
  rq : R q
  rr : ∀ k, rv.ownBlock = some k → R k
  rw' : ∀ k, wv.ownBlock = some k → R k
  sk : ∀ k, S k → ¬ K k
  sr : ∀ k, S k → ¬ R k
  kr : ∀ k, K k → ¬ R k
  bS : ∀ k, S k → w0.heap.size ≤ k ∧ k < w.heap.size
  bK : ∀ k, K k → w0.heap.size ≤ k ∧ k < w.heap.size
  bR : ∀ k, R k → w0.heap.size ≤ k ∧ k < w.heap.size
  bx : ∀ b, X = some b → Holds w b 35 L ∧ ¬ S b ∧ ¬ K b ∧ ¬ R b
  below : Below w0.heap.size w0 w
/-- Where the walk stands. -/
def PSt (w0 w : World) (X : Option Nat) (L : List Value) (a q t : Nat) (f g : Lg) (n : Nat) : Prop := ∃ S K R rv wv, PO w0 w S K R rv wv X L a q t f g n

section
variable {w0 w w' w1 w2 : World} {S K R : Nat → Prop} {rv wv : Value} {X : Option Nat} {L : List Value} {a q t : Nat} {f g f' g' : Lg} {n : Nat}
theorem PO.log (h : PO w0 w S K R rv wv X L a q t f g n) (k : LOut w S a f' w') : PSt w0 w' X L a q t f' g n := by
  have hz := k.2.size
  refine ⟨Gr S w w', K, R, rv, wv, k.1, h.kp.frame k.2 (fun k hk hS => h.sk k hS hk), h.rf.frame k.2 (fun hS => h.sr _ hS h.rq) (fun b e hS => h.sr _ hS (h.rr b e)) (fun b e hS => h.sr _ hS (h.rw' b e)), h.rq, h.rr, h.rw', fun b hb hK => ?_, fun b hb hR => ?_, h.kr, fun b hb => ?_, fun b hb => ⟨(h.bK b hb).1, Nat.lt_of_lt_of_le (h.bK b hb).2 hz⟩, fun b hb => ⟨(h.bR b hb).1, Nat.lt_of_lt_of_le (h.bR b hb).2 hz⟩, fun b e => ?_, h.below.trans (k.2.below h.below.size (fun b hb => (h.bS b hb).1))⟩
  · rcases hb with hb | hb
    · exact h.sk b hb hK
    · have := (h.bK b hK).2; omega
  · rcases hb with hb | hb
    · exact h.sr b hb hR
    · have := (h.bR b hR).2; omega
  · rcases hb with hb | hb
    · exact ⟨(h.bS b hb).1, Nat.lt_of_lt_of_le (h.bS b hb).2 hz⟩
    · exact ⟨Nat.le_trans h.below.size hb.1, hb.2⟩
  · obtain ⟨h1, h2, h3, h4⟩ := h.bx b e
    refine ⟨k.2.holds h2 h1, fun hb => ?_, h3, h4⟩
    rcases hb with hb | hb
    · exact h2 hb
    · have := h1.lt; omega
theorem PO.ref (h : PO w0 w S K R rv wv X L a q t f g n) (k : RfOut w q rv wv g' w') : PSt w0 w' X L a q t f g' n := by
  obtain ⟨rv', wv', k1, k2, k3, k4⟩ := k
  have hz := k2.size
  have hq : ∀ b, ¬ R b → ¬ b = q := fun b hb e => hb (e ▸ h.rq)
  refine ⟨S, K, fun b => R b ∨ (w.heap.size ≤ b ∧ b < w'.heap.size), rv', wv', h.lg.frame k2 (fun b hb => hq b (h.sr b hb)), h.kp.frame k2 (fun b hb => hq b (h.kr b hb)), k1, .inl h.rq, fun b e => ?_, fun b e => ?_, h.sk, fun b hb hR => ?_, fun b hb hR => ?_, fun b hb => ⟨(h.bS b hb).1, Nat.lt_of_lt_of_le (h.bS b hb).2 hz⟩, fun b hb => ⟨(h.bK b hb).1, Nat.lt_of_lt_of_le (h.bK b hb).2 hz⟩, fun b hb => ?_, fun b e => ?_, h.below.trans (k2.below h.below.size (fun b hb => by rw [hb]; exact (h.bR q h.rq).1))⟩
  · rcases k3 with rfl | k3
    · exact .inl (h.rr b e)
    · exact .inr ⟨k3 b e, (k1.r.lt e).2⟩
  · rcases k4 with rfl | k4
    · exact .inl (h.rw' b e)
    · exact .inr ⟨k4 b e, (k1.wl.lt e).2⟩
  · rcases hR with hR | hR
    · exact h.sr b hb hR
    · have := (h.bS b hb).2; omega
  · rcases hR with hR | hR
    · exact h.kr b hb hR
    · have := (h.bK b hb).2; omega
  · rcases hb with hb | hb
    · exact ⟨(h.bR b hb).1, Nat.lt_of_lt_of_le (h.bR b hb).2 hz⟩
    · exact ⟨Nat.le_trans h.below.size hb.1, hb.2⟩
  · obtain ⟨h1, h2, h3, h4⟩ := h.bx b e
    refine ⟨k2.holds (hq b h4) h1, h2, h3, fun hb => ?_⟩
    rcases hb with hb | hb
    · exact h4 hb
    · have := h1.lt; omega
theorem PO.kept (h : PO w0 w S K R rv wv X L a q t f g n) (hb : Below w.heap.size w w1) {m : Nat} (k1 : KpAt w2 (fun k => K k ∨ w.heap.size ≤ k ∧ k < w2.heap.size) t m) (k2 : Tch (fun k => K k ∨ w.heap.size ≤ k) w1 w2) : PSt w0 w2 X L a q t f g m := by
  have k3 : Tch (fun k => K k ∨ w.heap.size ≤ k) w w2 := (Tch.of_idle hb).trans k2
  have hz := k3.size
  have hn : ∀ b, ¬ K b → b < w.heap.size → ¬ (K b ∨ w.heap.size ≤ b) := fun b h1 h2 h3 => by
    rcases h3 with h3 | h3
    · exact h1 h3
    · omega
  refine ⟨S, _, R, rv, wv, h.lg.frame k3 (fun b hb => hn b (h.sk b hb) (h.bS b hb).2), k1, h.rf.frame k3 (hn q (fun e => h.kr q e h.rq) (h.bR q h.rq).2) (fun b e => hn b (fun hk => h.kr b hk (h.rr b e)) (h.bR b (h.rr b e)).2) (fun b e => hn b (fun hk => h.kr b hk (h.rw' b e)) (h.bR b (h.rw' b e)).2), h.rq, h.rr, h.rw', fun b hb hK => ?_, h.sr, fun b hb hR => ?_, fun b hb => ⟨(h.bS b hb).1, Nat.lt_of_lt_of_le (h.bS b hb).2 hz⟩, fun b hb => ?_, fun b hb => ⟨(h.bR b hb).1, Nat.lt_of_lt_of_le (h.bR b hb).2 hz⟩, fun b e => ?_, h.below.trans (k3.below h.below.size (fun b hb => ?_))⟩
  · rcases hK with hK | hK
    · exact h.sk b hb hK
    · have := (h.bS b hb).2; omega
  · rcases hb with hb | hb
    · exact h.kr b hb hR
    · have := (h.bR b hR).2; omega
  · rcases hb with hb | hb
    · exact ⟨(h.bK b hb).1, Nat.lt_of_lt_of_le (h.bK b hb).2 hz⟩
    · exact ⟨Nat.le_trans h.below.size hb.1, hb.2⟩
  · obtain ⟨h1, h2, h3, h4⟩ := h.bx b e
    refine ⟨k3.holds (hn b h3 h1.lt) h1, h2, fun hb => ?_, h4⟩
    rcases hb with hb | hb
    · exact h3 hb
    · have := h1.lt; omega
  · rcases hb with hb | hb
    · exact (h.bK b hb).1
    · exact Nat.le_trans h.below.size hb
theorem PO.idle (h : PO w0 w S K R rv wv X L a q t f g n) (hb : Below w.heap.size w w1) : PO w0 w1 S K R rv wv X L a q t f g n := by
  have hz := hb.size
  exact ⟨h.lg.below hb, h.kp.idle hb, h.rf.below hb, h.rq, h.rr, h.rw', h.sk, h.sr, h.kr, fun b hb => ⟨(h.bS b hb).1, Nat.lt_of_lt_of_le (h.bS b hb).2 hz⟩, fun b hb => ⟨(h.bK b hb).1, Nat.lt_of_lt_of_le (h.bK b hb).2 hz⟩, fun b hb => ⟨(h.bR b hb).1, Nat.lt_of_lt_of_le (h.bR b hb).2 hz⟩, fun b e => ⟨(h.bx b e).1.below hb, (h.bx b e).2⟩, h.below.trans (hb.mono h.below.size)⟩
theorem PSt.idle (h : PSt w0 w X L a q t f g n) (hb : Below w.heap.size w w1) : PSt w0 w1 X L a q t f g n := by
  obtain ⟨S, K, R, rv, wv, h⟩ := h
  exact ⟨S, K, R, rv, wv, h.idle hb⟩
theorem PSt.box (h : PSt w0 w none L a q t f g n) (L' : List Value) : PSt w0 (w.alloc (.cells L'.toArray 35)) (some w.heap.size) L' a q t f g n := by
  obtain ⟨S, K, R, rv, wv, h⟩ := h
  have h' := h.idle ((Below.refl _ w).alloc (Nat.le_refl _) (.cells L'.toArray 35))
  refine ⟨S, K, R, rv, wv, { h' with bx := fun b e => ?_ }⟩
  cases e
  exact ⟨Holds.new w 35 L', fun hb => by have := (h.bS _ hb).2; omega, fun hb => by have := (h.bK _ hb).2; omega, fun hb => by have := (h.bR _ hb).2; omega⟩
theorem PSt.unbox (h : PSt w0 w X L a q t f g n) (L' : List Value) : PSt w0 w none L' a q t f g n := by
  obtain ⟨S, K, R, rv, wv, h⟩ := h
  exact ⟨S, K, R, rv, wv, { h with bx := fun b e => by cases e }⟩
theorem PSt.below (h : PSt w0 w X L a q t f g n) : Below w0.heap.size w0 w := by
  obtain ⟨S, K, R, rv, wv, h⟩ := h
  exact h.below
theorem PSt.fit (h : PSt w0 w X L a q t f g n) : FitL f.r ∧ FitL f.w ∧ f.r.length ≤ 128 ∧ f.w.length ≤ 128 := by
  obtain ⟨S, K, R, rv, wv, h⟩ := h
  exact h.lg.fit
theorem PSt.cell {b : Nat} (h : PSt w0 w (some b) L a q t f g n) {i : Nat} {v : Value} (hv : L[i]? = some v) : w.cell? ⟨b, i, none⟩ = some v := by
  obtain ⟨S, K, R, rv, wv, h⟩ := h
  exact (h.bx b rfl).1.cell hv

theorem read_p (h : PSt w0 w X L a q t f g n) (i v : Int) (hi : (Lit.int .i64 i).wf = true) (hv : (Lit.int .u64 v).wf = true) : Calls Try.prog 16 #[.pointer (some ⟨a, 0, none⟩), .int .i64 i, .int .u64 v] w fun e w' => e = .returned (.int .i64 (errRead f.r i)) ∧ PSt w0 w' X L a q t (f.read i v) g n := by
  obtain ⟨S, K, R, rv, wv, h⟩ := h
  exact (read_any h.lg i v hi hv).mono fun _ _ ⟨e, k⟩ => ⟨e, h.log k⟩
theorem write_p (h : PSt w0 w X L a q t f g n) (i v : Int) (hi : (Lit.int .i64 i).wf = true) (hv : (Lit.int .u64 v).wf = true) : Calls Try.prog 18 #[.pointer (some ⟨a, 0, none⟩), .int .i64 i, .int .u64 v] w fun e w' => e = .returned (.int .i64 (errRead f.w i)) ∧ PSt w0 w' X L a q t (f.write i v) g n := by
  obtain ⟨S, K, R, rv, wv, h⟩ := h
  exact (write_any h.lg i v hi hv).mono fun _ _ ⟨e, k⟩ => ⟨e, h.log k⟩
theorem clear_p (h : PSt w0 w X L a q t f g n) : Calls Try.prog 21 #[.pointer (some ⟨a, 0, none⟩)] w fun e w' => e = .returned (.int .i64 0) ∧ PSt w0 w' X L a q t Lg.zero g n := by
  obtain ⟨S, K, R, rv, wv, h⟩ := h
  exact (clear_any h.lg).mono fun _ _ ⟨e, k⟩ => ⟨e, h.log k⟩
theorem was_p (h : PSt w0 w X L a q t f g n) (i : Int) (hi : (Lit.int .i64 i).wf = true) : Calls Try.prog 22 #[.pointer (some ⟨a, 0, none⟩), .int .i64 i] w fun e w' => e = .returned (.tuple #[.int .u64 (valL f.r i), .bool (hasL f.r i)]) ∧ w = w' := by
  obtain ⟨S, K, R, rv, wv, h⟩ := h
  exact was_any h.lg i hi
theorem look_p (h : PSt w0 w X L a q t f g n) (i : Int) (hi : (Lit.int .i64 i).wf = true) : Calls Try.prog 23 #[.pointer (some ⟨a, 0, none⟩), .int .i64 i] w fun e w' => e = .returned (.tuple #[.int .u64 (valL f.w i), .bool (hasL f.w i)]) ∧ w = w' := by
  obtain ⟨S, K, R, rv, wv, h⟩ := h
  exact look_any h.lg i hi
theorem reads_p (h : PSt w0 w X L a q t f g n) : Calls Try.prog 13 #[.pointer (some ⟨a, 0, none⟩)] w fun e w' => ∃ v, e = .returned v ∧ RowL w' w.heap.size v f.r ∧ Below w.heap.size w w' := by
  obtain ⟨S, K, R, rv, wv, h⟩ := h
  exact reads_any h.lg
theorem writes_p (h : PSt w0 w X L a q t f g n) : Calls Try.prog 14 #[.pointer (some ⟨a, 0, none⟩)] w fun e w' => ∃ v, e = .returned v ∧ RowL w' w.heap.size v f.w ∧ Below w.heap.size w w' := by
  obtain ⟨S, K, R, rv, wv, h⟩ := h
  exact writes_any h.lg
theorem broken_p (h : PSt w0 w X L a q t f g n) (ad : Option Addr) (cap : Nat) (now : List Pr) (hnow : RowsIn w ad 2 Pr.cells now) (hln : now.length ≤ 100000) :
    Calls Try.prog 20 #[.pointer (some ⟨a, 0, none⟩), .slice ad now.length cap] w fun e w' => e = .returned (BrkAns f.r now) ∧ Below w.heap.size w w' := by
  obtain ⟨S, K, R, rv, wv, h⟩ := h
  exact broken_any h.lg ad cap now hnow hln
theorem rread_p (h : PSt w0 w X L a q t f g n) (hl : g.r.length ≤ 128) (i v : Int) : Calls Try.prog 17 #[.pointer (some ⟨q, 0, none⟩), .int .i64 i, .int .u64 v] w fun e w' => e = .returned (.int .i64 (errRead g.r i)) ∧ PSt w0 w' X L a q t f (g.read i v) n := by
  obtain ⟨S, K, R, rv, wv, h⟩ := h
  exact (rread_any h.rf hl i v).mono fun _ _ ⟨e, k⟩ => ⟨e, h.ref k⟩
theorem rwrite_p (h : PSt w0 w X L a q t f g n) (hl : g.w.length ≤ 128) (i v : Int) : Calls Try.prog 19 #[.pointer (some ⟨q, 0, none⟩), .int .i64 i, .int .u64 v] w fun e w' => e = .returned (.int .i64 (errRead g.w i)) ∧ PSt w0 w' X L a q t f (g.write i v) n := by
  obtain ⟨S, K, R, rv, wv, h⟩ := h
  exact (rwrite_any h.rf hl i v).mono fun _ _ ⟨e, k⟩ => ⟨e, h.ref k⟩
theorem rbroken_p (h : PSt w0 w X L a q t f g n) (hl : g.r.length ≤ 128) (ad : Option Addr) (cap : Nat) (now : List Pr) (hnow : RowsIn w ad 2 Pr.cells now) (hln : now.length ≤ 100000) :
    Calls Try.prog 30 #[.pointer (some ⟨q, 0, none⟩), .slice ad now.length cap] w fun e w' => e = .returned (BrkAns g.r now) ∧ w = w' := by
  obtain ⟨S, K, R, rv, wv, h⟩ := h
  exact rbroken_any h.rf hl ad cap now hnow hln
/-- The document's two lists, as they lie. -/
theorem PSt.lists (h : PSt w0 w X L a q t f g n) : ∃ ad cap ad2 cap2, Holds w q 28 [.slice ad g.r.length cap, .slice ad2 g.w.length cap2] ∧ RowsIn w ad 2 Pr.cells g.r ∧ RowsIn w ad2 2 Pr.cells g.w ∧ PSt w0 w X L a q t f g n := by
  have h0 := h
  obtain ⟨S, K, R, rv, wv, h⟩ := h
  obtain ⟨ad, cap, rfl, h1, -⟩ := h.rf.r.spot
  obtain ⟨ad2, cap2, rfl, h2, -⟩ := h.rf.wl.spot
  exact ⟨ad, cap, ad2, cap2, h.rf.head, h1, h2, h0⟩
theorem still_p (h : PSt w0 w X L a q t f g n) (hn : n ≤ 100000) : Calls Try.prog 15 #[.pointer (some ⟨t, 0, none⟩)] w fun e w' => e = .returned (.bool true) ∧ Below w.heap.size w w' := by
  obtain ⟨S, K, R, rv, wv, h⟩ := h
  exact still_any h.kp hn
theorem keep_p (h : PSt w0 w X L a q t f g n) (hn : n ≤ 100000) (hb : Below w.heap.size w w1) {v : Value} {l : List Pr} (hr : RowL w1 w.heap.size v l) (hl : l.length ≤ 128) : Calls Try.prog 28 #[.pointer (some ⟨t, 0, none⟩), v] w1 fun e w' => e = .returned (.tuple #[]) ∧ PSt w0 w' X L a q t f g (n + 1) := by
  obtain ⟨S, K, R, rv, wv, h⟩ := h
  exact (keep_any (h.kp.idle hb) hn hr hl hb.size (fun k hk => (h.bK k hk).2)).mono fun _ _ ⟨e, k1, k2⟩ => ⟨e, h.kept hb k1 k2⟩
/-- The document's lists are emptied. -/
theorem PSt.nil (h : PSt w0 w X L a q t f g n) : PSt w0 ((w.setCell ⟨q, 0, none⟩ (.slice none 0 0)).setCell ⟨q, 1, none⟩ (.slice none 0 0)) X L a q t f Lg.zero n := by
  obtain ⟨S, K, R, rv, wv, h⟩ := h
  refine h.ref ⟨.slice none 0 0, .slice none 0 0, ⟨(h.rf.head.set 0 _).set 1 _, World.ownsRow_nil _ _ _ _, World.ownsRow_nil _ _ _ _⟩, (((Tch.refl (· = q) w).setCell (p := ⟨q, 0, none⟩) (.inl rfl) _).setCell (p := ⟨q, 1, none⟩) (.inl rfl) _), .inr (fun b e => by cases e), .inr (fun b e => by cases e)⟩
end

end Go.Proofs.Ytfngfphoefpndaa
