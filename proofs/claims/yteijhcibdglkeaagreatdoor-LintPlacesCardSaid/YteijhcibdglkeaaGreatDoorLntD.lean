/- Where a way goes on from any spot; whether one goes out of the code. Conditions: those stated in each theorem. -/
import Derived.Test.YteijhcibdglkeaaGreatDoorLntB
import Derived.Test.YteijhcibdglkeaaGreatDoorLntC
import Derived.LoopIn
import Derived.LoopNIn
namespace Go.Proofs.YteijhcibdglkeaaGreatDoor
open Go.RowKit Go.BigFrame Go.Shelf
attribute [local go_sem] Oper.semAt_some
attribute [local simp] wide_fn

theorem kpB_t {S : Nat → Prop} {T : TypeId → Prop} {X Y Z : World} (h : KpB S T X Y) (k : KpB S T Y Z) : KpB S T X Z := fun b c t m e s => k b c t m (h b c t m e s) s
theorem kpB_b {S : Nat → Prop} {T : TypeId → Prop} {l : Nat} (W : World) (o o' : Loop) (h : W.heap[l]? = some (.loop o)) : KpB S T W (W.putObj l (.loop o')) := fun b c t m e _ =>
  (World.putObj_heap_other (fun eq => by subst eq; rw [e] at h; cases h)).trans e
theorem Tch.kpB {C : Nat → Prop} {S : Nat → Prop} {T : TypeId → Prop} {W W' : World} (h : Tch C W W') (hs : ∀ b, S b → ¬ C b) (ht : ∀ b c t m, C b → W.heap[b]? = some (.cells c t m) → ¬ T t) : KpB S T W W' := fun b c t m e s =>
  (h.block b (Array.getElem?_eq_some_iff.1 e).1 (fun hc => by rcases s with s | s; exact hs b s hc; exact ht b c t m hc e s)).trans e
theorem tch_trans2 {C D : Nat → Prop} {a b c : World} (h : Tch C a b) (k : Tch D b c) (hD : ∀ i, i < a.heap.size → D i → C i) : Tch C a c :=
  ⟨k.os.trans h.os, k.tape.trans h.tape, k.output.trans h.output, Nat.le_trans h.size k.size, fun i hi hc => (k.block i (Nat.lt_of_lt_of_le hi h.size) (fun d => hc (hD i hi d))).trans (h.block i hi hc)⟩
/-- The marks that a function has by then. -/
def Mks (B : Nat) (ms : List Nat) (W : World) : Prop := (∀ D ∈ ms, W.heap[D]? = some (.deferred (some []))) ∧ ms.Nodup ∧ ∀ D ∈ ms, B ≤ D
theorem Mks.own {β : Type} {ms : List Nat} {B N : Nat} (hN : ∀ D ∈ ms, D < N) : OwnFrom N (fun (_ : β) W => Mks B ms W) := fun _ _ _ _ hs hg hr => ⟨fun D hD => kept_rec hg hr (hN D hD) (hs.1 D hD), hs.2⟩
theorem Mks.below {ms : List Nat} {B : Nat} {W W' : World} (h : Mks B ms W) (k : Below W.heap.size W W') : Mks B ms W' := ⟨fun D hD => (k.block D (Array.getElem?_eq_some_iff.1 (h.1 D hD)).1).trans (h.1 D hD), h.2⟩
theorem Mks.keeps {ms : List Nat} {B n : Nat} {W W' : World} (h : Mks B ms W) (k : KeepsFrom n W W') (hn : n ≤ B) : Mks B ms W' := ⟨fun D hD => k.same D _ (Nat.le_trans hn (h.2.2 D hD)) (h.1 D hD) rfl, h.2⟩
theorem Mks.lt {ms : List Nat} {B : Nat} {W : World} (h : Mks B ms W) : ∀ D ∈ ms, D < W.heap.size := fun D hD => (Array.getElem?_eq_some_iff.1 (h.1 D hD)).1

theorem keepsFrom_alloc (B : Nat) (W : World) (o : Obj) : KeepsFrom B W (W.alloc o) := ⟨by simp, fun k ob _ hk _ => (Below.heap_alloc _ _ _ (Array.getElem?_eq_some_iff.1 hk).1).trans hk⟩
theorem kpB_alloc {S : Nat → Prop} {T : TypeId → Prop} (W : World) (o : Obj) : KpB S T W (W.alloc o) := fun b c t m e _ => (Below.heap_alloc _ _ _ (Array.getElem?_eq_some_iff.1 e).1).trans e
/-- Where a way goes on from any spot. -/
theorem go_each (l Ba Bb cap : Nat) (a : Option Addr) (c : List In) (s : Spot) (w : World) (hn : c.length ≤ 1024) (hF : FormsAt w) (hg : GoAt w Ba Bb c.length cap a s) (hr : RowsIn w a 5 In.cells c) (S : Nat → Prop) (T : TypeId → Prop) (hS : S Ba ∧ S Bb) (hT : T 43) :
    SeqEach Fence.wide Tryz.prog 43 #[.pointer (some ⟨Ba, 0, none⟩), .pointer (some ⟨Bb, 0, none⟩)] encS (KpB S T) (lgo c s) w l := by
  obtain ⟨k, x⟩ := s
  by_cases hk : ¬ k < c.length
  · have hlg : lgo c (k, x) = [] := by unfold lgo; rw [List.getElem?_eq_none (by simp only; omega)]
    rw [hlg]
    exact go_none l Ba Bb cap c.length a (k, x) (by unfold hasL; simp; omega) w hg S T
  have hk : k < c.length := by omega
  obtain ⟨i, hi⟩ : ∃ i, c[k]? = some i := ⟨_, List.getElem?_eq_getElem hk⟩
  obtain ⟨q, o, rfl, hq, hrow⟩ := hr.row hi
  rw [lgo_some (s := (k, x)) hi]
  obtain ⟨op, ra, rb, rc, imm⟩ := i
  cases hl : legalP ⟨op, ra, rb, rc, imm⟩ with
  | false =>
    have : lgoI ⟨op, ra, rb, rc, imm⟩ (k, x) = [] := by unfold lgoI; rw [if_pos (.inl hl)]
    rw [this]
    exact go_ill l Ba Bb q o cap c.length k op ra rb rc imm x hl w hk hn hF hg hrow S T hS hT
  | true =>
    by_cases h1 : op = 1
    · subst h1
      have : lgoI ⟨1, ra, rb, rc, imm⟩ (k, x) = [] := by unfold lgoI; rw [if_pos (.inr rfl)]
      rw [this]
      exact go_1 l Ba Bb q o cap c.length k ra rb rc imm x hl w hk hn hF hg hrow S T hS hT
    by_cases h17 : op = 17
    · subst h17
      cases x with
      | true =>
        have : lgoI ⟨17, ra, rb, rc, imm⟩ (k, true) = [] := by simp [lgoI, hl]
        rw [this]
        exact go_17t l Ba Bb q o cap c.length k ra rb rc imm hl w hk hn hF hg hrow S T hS hT
      | false =>
        have : lgoI ⟨17, ra, rb, rc, imm⟩ (k, false) = [(k + 1, true)] := by simp [lgoI, hl]
        rw [this]
        exact go_17f l Ba Bb q o cap c.length k ra rb rc imm hl w hk hn hF hg hrow S T hS hT
    by_cases h18 : op = 18
    · subst h18
      cases x with
      | true =>
        have : lgoI ⟨18, ra, rb, rc, imm⟩ (k, true) = [(k + 1, false)] := by simp [lgoI, hl]
        rw [this]
        exact go_18t l Ba Bb q o cap c.length k ra rb rc imm hl w hk hn hF hg hrow S T hS hT
      | false =>
        have : lgoI ⟨18, ra, rb, rc, imm⟩ (k, false) = [] := by simp [lgoI, hl]
        rw [this]
        exact go_18f l Ba Bb q o cap c.length k ra rb rc imm hl w hk hn hF hg hrow S T hS hT
    cases hp : isPl imm with
    | false =>
      by_cases h13 : op = 13
      · subst h13
        have : lgoI ⟨13, ra, rb, rc, imm⟩ (k, x) = [] := by simp [lgoI, hl, hp]
        rw [this]
        exact go_13f l Ba Bb q o cap c.length k ra rb rc imm x hl hp w hk hn hF hg hrow S T hS hT
      by_cases h14 : op = 14
      · subst h14
        have : lgoI ⟨14, ra, rb, rc, imm⟩ (k, x) = [(k + 1, x)] := by simp [lgoI, hl, hp]
        rw [this]
        exact go_14f l Ba Bb q o cap c.length k ra rb rc imm x hl hp w hk hn hF hg hrow S T hS hT
      by_cases h15 : op = 15
      · subst h15
        have : lgoI ⟨15, ra, rb, rc, imm⟩ (k, x) = [(k + 1, x)] := by simp [lgoI, hl, hp]
        rw [this]
        exact go_15f l Ba Bb q o cap c.length k ra rb rc imm x hl hp w hk hn hF hg hrow S T hS hT
      by_cases h16 : op = 16
      · subst h16
        have : lgoI ⟨16, ra, rb, rc, imm⟩ (k, x) = [(k + 1, x)] := by simp [lgoI, hl, hp]
        rw [this]
        exact go_16f l Ba Bb q o cap c.length k ra rb rc imm x hl hp w hk hn hF hg hrow S T hS hT
      have : lgoI ⟨op, ra, rb, rc, imm⟩ (k, x) = [(k + 1, x)] := by simp [lgoI, hl, h1, h17, h18, h13, h14, h15, h16]
      rw [this]
      exact go_on l Ba Bb q o cap c.length k op ra rb rc imm x hl h1 h17 h18 h13 h14 h15 h16 w hk hn hF hg hrow S T hS hT
    | true =>
      have hp0 : 0 ≤ imm ∧ imm ≤ 1024 := by simpa [isPl] using hp
      obtain ⟨p, rfl⟩ : ∃ p : Nat, imm = p := ⟨imm.toNat, by omega⟩
      have hple : p ≤ 1024 := by omega
      by_cases h13 : op = 13
      · subst h13
        have : lgoI ⟨13, ra, rb, rc, (p : Nat)⟩ (k, x) = [(p, x)] := by simp [lgoI, hl, hp]
        rw [this]
        exact go_13t l Ba Bb q o cap c.length k ra rb rc p x hple hl w hk hn hF hg hrow S T hS hT
      by_cases h14 : op = 14
      · subst h14
        have : lgoI ⟨14, ra, rb, rc, (p : Nat)⟩ (k, x) = [(p, x), (k + 1, x)] := by simp [lgoI, hl, hp]
        rw [this]
        exact go_14t l Ba Bb q o cap c.length k ra rb rc p x hple hl w hk hn hF hg hrow S T hS hT
      by_cases h15 : op = 15
      · subst h15
        have : lgoI ⟨15, ra, rb, rc, (p : Nat)⟩ (k, x) = [(p, x), (k + 1, x)] := by simp [lgoI, hl, hp]
        rw [this]
        exact go_15t l Ba Bb q o cap c.length k ra rb rc p x hple hl w hk hn hF hg hrow S T hS hT
      by_cases h16 : op = 16
      · subst h16
        have : lgoI ⟨16, ra, rb, rc, (p : Nat)⟩ (k, x) = [(p, x), (k + 1, x)] := by simp [lgoI, hl, hp]
        rw [this]
        exact go_16t l Ba Bb q o cap c.length k ra rb rc p x hple hl w hk hn hF hg hrow S T hS hT
      have : lgoI ⟨op, ra, rb, rc, (p : Nat)⟩ (k, x) = [(k + 1, x)] := by simp [lgoI, hl, h1, h17, h18, h13, h14, h15, h16]
      rw [this]
      exact go_on l Ba Bb q o cap c.length k op ra rb rc (p : Nat) x hl h1 h17 h18 h13 h14 h15 h16 w hk hn hF hg hrow S T hS hT

/-- A way within a block to a place without an instruction. -/
def outS (n : Nat) (t : Spot) : Bool := t.2 && !(hasL n (t.1 : Nat))
theorem outS_eq (n : Nat) (t : Spot) : outS n t = (t.2 && decide (n ≤ t.1)) := by
  unfold outS hasL
  cases t.2
  · rfl
  · simp only [Bool.true_and]
    by_cases h : n ≤ t.1
    · have : ¬ ((t.1 : Int) < (n : Int)) := by omega
      simp [h, this]
    · have : (t.1 : Int) < (n : Int) := by omega
      simp [h]; omega
/-- Between two rounds: none of those ahead goes out. -/
def OutI (n n2 : Nat) (W0 : World) (pre : List Spot) (W : World) : Prop := (Tch (fun b => b = n2) W0 W ∧ Holds W n2 4 [.bool false]) ∧ ∀ t ∈ pre, outS n t = false
def OutX (n n2 : Nat) (W0 : World) (cd : Code) (pre : List Spot) (W : World) : Prop := (Tch (fun b => b = n2) W0 W ∧ Holds W n2 4 [.bool true]) ∧ cd = .ret ∧ ∃ t ∈ pre, outS n t = true
theorem outI_own {n n2 : Nat} {W0 : World} : OwnFrom W0.heap.size (OutI n n2 W0) :=
  OwnFrom.and (OwnFrom.and (ownFrom_tch (Nat.le_refl _)) (ownFrom_holds _ _ _ _)) (fun _ _ _ _ hs _ _ => hs)
theorem outX_own {n n2 : Nat} {W0 : World} (cd : Code) : OwnFrom W0.heap.size (OutX n n2 W0 cd) :=
  OwnFrom.and (OwnFrom.and (ownFrom_tch (Nat.le_refl _)) (ownFrom_holds _ _ _ _)) (fun _ _ _ _ hs _ _ => hs)

set_option maxRecDepth 100000 in
set_option maxHeartbeats 2000000 in
theorem out_in (a : Option Addr) (cap : Nat) (c : List In) (s : Spot) (w : World) (N : Nat) (hN : w.heap.size = N) (hn : c.length ≤ 1024) (hF : FormsAt w) (hr : RowsIn w a 5 In.cells c) : CallsIn Fence.wide 9 Tryz.prog 61 #[.slice a c.length cap, .agg #[.int .i64 (s.1 : Nat), .bool s.2]] w fun e w' => e = .returned (.bool ((lgo c s).any (outS c.length))) ∧ Below N w w' := by
  have HF := Lib.hid hF; clear hF
  have HR := Lib.hid hr; clear hr
  have Hn := Lib.hid hn; clear hn
  refine callsIn_of_wp_marks Tryz.func61 rfl trivial ?_ rfl
  simp only [Tryz.ntmps61, List.size_toArray, List.length_cons, List.length_nil, Nat.reduceAdd, Nat.reduceSub, Array.replicate_succ, Array.replicate_zero, List.push_toArray, List.append_toArray, List.nil_append, List.cons_append]
  gi_wp2_with (gi_at_call 31; refine (callsIn_wide.2 (goes_make _ _ _ _ _)).mono ?_; rintro e w3 ⟨rfl, hz⟩; have hw3 := hz.symm; clear hz; refine Hid.out ?_)
  refine Lib.hid ?_
  have hbW : Below w.heap.size w w3 := by rw [← hw3]; exact (((((Below.refl _ w).alloc (Nat.le_refl _) _).alloc (by simp) _).alloc (by simp; omega) _).alloc (by simp; omega) _).alloc (by simp; omega) _
  have hsz : w3.heap.size = w.heap.size + 5 := by rw [← hw3]; simp
  have q0 : Holds w3 w.heap.size 31 [.slice a c.length cap] := by rw [← hw3]; exact ((((Holds.new w 31 [.slice a c.length cap]).alloc _).alloc _).alloc _).alloc _
  have q2 : Holds w3 (w.heap.size + 2) 4 [.bool false] := by rw [← hw3]; exact ((newAt (by simp) 4 [.bool false]).alloc _).alloc _
  have q3 : Holds w3 (w.heap.size + 3) 31 [.slice a c.length cap] := by rw [← hw3]; exact (newAt (by simp) 31 [.slice a c.length cap]).alloc _
  have q4 : Holds w3 (w.heap.size + 4) 89 [.int .i64 (s.1 : Nat), .bool s.2] := by rw [← hw3]; exact newAt (by simp) 89 [.int .i64 (s.1 : Nat), .bool s.2]
  clear hw3
  have hF3 := HF.out.below hbW
  have hR3 := HR.out.below hbW
  have hE := go_each (w3.heap.size + 1) (w.heap.size + 3) (w.heap.size + 4) cap a c s w3 Hn.out hF3 ⟨q3, q4⟩ hR3 (fun b => b = w.heap.size + 3 ∨ b = w.heap.size + 4) (fun t => t = 43) ⟨.inl rfl, .inr rfl⟩ rfl
  have HE := Lib.hid hE; clear hE
  have Hbw := Lib.hid hbW; clear hbW
  have Hsz := Lib.hid hsz; clear hsz
  have Hq0 := Lib.hid q0; clear q0
  have Hq2 := Lib.hid q2; clear q2
  clear HF HR hF3 hR3 q3 q4
  simp only [hN, Nat.add_assoc, Nat.reduceAdd] at *
  gi_wp2_with fail
  refine each_own rfl rfl (gf := 43) (lb := #[.pointer (some ⟨N + 3, 0, none⟩), .pointer (some ⟨N + 4, 0, none⟩)]) rfl trivial (enters_of Tryz.func43 (by kernel_rfl) rfl)
    HE.out kpB_t kpB_b (fun _ => rfl) (OutI c.length (N + 2) w3) (OutX c.length (N + 2) w3) outI_own outX_own ⟨⟨Tch.refl _ _, Hq2.out⟩, fun t ht => by cases ht⟩ ?round ?done ?stop
  case round =>
    rintro pre x rest X hx hl hI
    clear hx hl
    unfold RoundOwes
    simp only [encS]
    have HI := Lib.hid hI; clear hI
    gi_wp2
    refine ⟨keepsFrom_alloc _ _ _, kpB_alloc _ _, fun W => OutI c.length (N + 2) w3 pre W ∧ Holds W X.heap.size 89 [.int .i64 (x.1 : Nat), .bool x.2], OwnFrom.and (fun (_ : Unit) => outI_own pre) (ownFrom_holds _ _ _ (fun _ => _)), ⟨outI_own.alloc _ HI.out, Holds.new X 89 [.int .i64 (x.1 : Nat), .bool x.2]⟩, fun X2 hl hbx hI2 => ?_⟩
    clear hl hbx HI
    obtain ⟨⟨⟨hT, hb⟩, hpre⟩, ht⟩ := hI2
    have c0 := (hT.holds (show ¬ N = N + 2 by omega) Hq0.out).cell (i := 0) rfl
    have c1 := ht.cell (i := 0) rfl
    have c2 := ht.cell (i := 1) rfl
    have f1 := hb.free 0
    have c3 := hb.cell (i := 0) rfl
    have HT := Lib.hid hT; clear hT
    have Hb := Lib.hid hb; clear hb
    have Hpre := Lib.hid hpre; clear hpre
    have hset : Tch (fun b => b = N + 2) X2 (X2.setCell ⟨N + 2, 0, none⟩ (.bool true)) := (Tch.refl (fun b => b = N + 2) X2).setCell (p := ⟨N + 2, 0, none⟩) (.inl rfl) _
    have Hset := Lib.hid hset; clear hset
    have Hbc := Lib.hid (And.intro (show ∃ cc tt mm, X2.heap[N + 2]? = some (.cells cc tt mm) from ⟨_, _, _, Hb.out⟩) (show (X2.setCell ⟨N + 2, 0, none⟩ (.bool true)).heap.size = X2.heap.size from World.size_setCell _ _ _))
    obtain ⟨xp, xw⟩ := x
    cases xw with
    | false =>
      clear ht
      gi_wp2
      refine ⟨KeepsFrom.refl _ _, kpB_r _, ⟨HT.out, Hb.out⟩, fun t hm => ?_⟩
      rcases List.mem_append.1 hm with hm | hm
      · exact Hpre.out t hm
      · rw [List.mem_singleton.1 hm]; rfl
    | true =>
      have hhas := fun V => has_lint a c.length cap (xp : Nat) V
      cases hh : hasL c.length (xp : Nat) with
      | true =>
        rw [hh] at hhas
        have HH := Lib.hid hhas; clear hhas
        have Hout := Lib.hid (show outS c.length (xp, true) = false by unfold outS; rw [hh]; rfl)
        clear ht hh
        gi_wp2_with (gi_at_call 44; refine (CallsIn.inRound _ (callsIn_wide.2 (HH.out _))).mono ?_; rintro e w5 ⟨rfl, rfl⟩)
        refine ⟨KeepsFrom.refl _ _, kpB_r _, ⟨HT.out, Hb.out⟩, fun t hm => ?_⟩
        rcases List.mem_append.1 hm with hm | hm
        · exact Hpre.out t hm
        · rw [List.mem_singleton.1 hm]; exact Hout.out
      | false =>
        rw [hh] at hhas
        have HH := Lib.hid hhas; clear hhas
        have Hout := Lib.hid (show outS c.length (xp, true) = true by unfold outS; rw [hh]; rfl)
        clear ht hh
        gi_wp2_with (gi_at_call 44; refine (CallsIn.inRound _ (callsIn_wide.2 (HH.out _))).mono ?_; rintro e w5 ⟨rfl, rfl⟩)
        refine ⟨Hset.out.keepsFrom (fun b ob hb _ ho => ?_), Hset.out.kpB (fun b hs e => by subst e; omega) (fun b cc tt mm e he ht => ?_), ⟨HT.out.trans Hset.out, Hb.out.set 0 (.bool true)⟩, rfl, (xp, true), by simp, Hout.out⟩
        · subst hb; obtain ⟨cc, tt, mm, e⟩ := Hbc.out.1; rw [e] at ho; cases ho; rfl
        · subst e; subst ht; have := Hb.out; unfold Holds at this; rw [this] at he; cases he
  case done =>
    rintro W ⟨⟨hT, hb⟩, hall⟩ hK
    have f1 := hb.free 0
    have c2 := hb.cell (i := 0) rfl
    have HK := Lib.hid hK; clear hK
    have HT := Lib.hid hT; clear hT
    have Hb := Lib.hid hb; clear hb
    have hal := Lib.hid hall; clear hall
    gi_wp2
    have hb2 := Hb.out.set 0 (.bool false)
    have hT2 := HT.out.setCell (p := ⟨N + 2, 0, none⟩) (.inl rfl) (.bool false)
    have hK2 : (W.setCell ⟨N + 2, 0, none⟩ (.bool false)).heap[w3.heap.size]? = some (.deferred (some [])) := (Below.heap_setCell W ⟨N + 2, 0, none⟩ _ w3.heap.size (show w3.heap.size ≠ N + 2 by have := Hsz.out; omega)).trans HK.out
    have hbel : Below N w (W.setCell ⟨N + 2, 0, none⟩ (.bool false)) := Hbw.out.trans (hT2.below (by have := Hsz.out; omega) (fun b h => by omega))
    refine leaves_mark hK2 ⟨_, results_c rfl rfl (Tryz.loadBool ((hb2.putObj hK2 rfl _).cell (i := 0) rfl)), ?_, hbel.trans (belowK_b (w := w3) (by have := Hsz.out; omega) _ w3.heap.size _ _ (Nat.le_refl _) hK2 rfl rfl)⟩
    have : (lgo c s).any (outS c.length) = false := by rw [List.any_eq_false]; intro t ht; simpa using hal.out t ht
    rw [this]
  case stop =>
    rintro cd pre W hp ⟨⟨hT, hb⟩, rfl, hex⟩ hK
    have HK := Lib.hid hK; clear hK
    have HT := Lib.hid hT; clear hT
    have Hb := Lib.hid hb; clear hb
    gi_wp2
    have hbel : Below N w W := Hbw.out.trans (HT.out.below (by have := Hsz.out; omega) (fun b h => by omega))
    refine leaves_mark HK.out ⟨_, results_c rfl rfl (Tryz.loadBool ((Hb.out.putObj HK.out rfl _).cell (i := 0) rfl)), ?_, hbel.trans (belowK_b (w := w3) (by have := Hsz.out; omega) _ w3.heap.size _ _ (Nat.le_refl _) HK.out rfl rfl)⟩
    have : (lgo c s).any (outS c.length) = true := by
      obtain ⟨t, ht, ho⟩ := hex
      rw [List.any_eq_true]; exact ⟨t, hp.subset ht, ho⟩
    rw [this]

theorem out_any (a : Option Addr) (cap : Nat) (c : List In) (s : Spot) (w : World) (hn : c.length ≤ 1024) (hF : FormsAt w) (hr : RowsIn w a 5 In.cells c) : Calls Tryz.prog 61 #[.slice a c.length cap, .agg #[.int .i64 (s.1 : Nat), .bool s.2]] w fun e w' => e = .returned (.bool ((lgo c s).any (outS c.length))) ∧ Below w.heap.size w w' :=
  callsIn_wide.1 (out_in a cap c s w _ rfl hn hF hr)
end Go.Proofs.YteijhcibdglkeaaGreatDoor
