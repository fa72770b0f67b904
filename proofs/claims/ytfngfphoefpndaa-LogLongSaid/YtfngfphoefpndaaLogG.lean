/- A log: Broken. Conditions: those stated in each theorem. -/
import Derived.Test.YtfngfphoefpndaaLogF
import Derived.Test.YtfngfphoefpndaaCame
import Derived.Scope
namespace Go.Proofs.Ytfngfphoefpndaa
open Go.RowKit Go.BigFrame Go.Shelf Go.Maps
attribute [local go_sem] Oper.semAt_some
attribute [local simp] wide_fn

/-- What Broken answers. -/
def BrkAns (l now : List Pr) : Value := .tuple #[.int .i64 ((brokenL l now).getD 0 : Nat), .bool (brokenL l now).isSome]
def BrkI (l now : List Pr) (W0 : World) (pre : List Nat) (W : World) : Prop := Tch (fun _ => False) W0 W ∧ ∀ k x, k < pre.length → l[k]? = some x → offL now x = false
def BrkX (l now : List Pr) (n0 : Nat) (W0 : World) (c : Code) (_ : List Nat) (W : World) : Prop :=
  ((Tch (fun k => k = n0 + 1 ∨ k = n0 + 2) W0 W ∧ Holds W (n0 + 1) 3 [.int .i64 ((brokenL l now).getD 0 : Nat)]) ∧ Holds W (n0 + 2) 4 [.bool true]) ∧ (c = .ret ∧ (brokenL l now).isSome = true)
theorem brkI_own {l now : List Pr} {W0 : World} : OwnFrom W0.heap.size (BrkI l now W0) := OwnFrom.and (ownFrom_tch (Nat.le_refl _)) (fun _ _ _ _ hs _ _ => hs)
theorem brkX_own {l now : List Pr} {n0 : Nat} {W0 : World} (c : Code) : OwnFrom W0.heap.size (BrkX l now n0 W0 c) := OwnFrom.and (OwnFrom.and (OwnFrom.and (ownFrom_tch (Nat.le_refl _)) (ownFrom_holds _ _ _ _)) (ownFrom_holds _ _ _ _)) (fun _ _ _ _ hs _ _ => hs)

theorem broken_at {l now : List Pr} {i : Nat} {x : Pr} (hx : l[i]? = some x) (h1 : offL now x = true) (h2 : ∀ k y, k < i → l[k]? = some y → offL now y = false) : brokenL l now = some i := by
  unfold brokenL
  rw [List.findIdx?_eq_some_iff_getElem]
  obtain ⟨hi, rfl⟩ := List.getElem?_eq_some_iff.1 hx
  exact ⟨hi, h1, fun j hj => by rw [h2 j _ hj (List.getElem?_eq_getElem (by omega))]; simp⟩
theorem broken_none {l now : List Pr} (h : ∀ k y, k < l.length → l[k]? = some y → offL now y = false) : brokenL l now = none := by
  unfold brokenL
  rw [List.findIdx?_eq_none_iff]
  intro y hy
  obtain ⟨k, hk, rfl⟩ := List.mem_iff_getElem.1 hy
  exact h k _ hk (List.getElem?_eq_getElem hk)
theorem posL_here {now : List Pr} {x p : Pr} {j : Nat} (hp : now[j]? = some p) (ha : p.a = x.a) (h : ∀ m y, m < j → now[m]? = some y → y.a ≠ x.a) : posL now x.a = some j := by
  unfold posL
  rw [List.findIdx?_eq_some_iff_getElem]
  obtain ⟨hj, rfl⟩ := List.getElem?_eq_some_iff.1 hp
  exact ⟨hj, by simpa using ha, fun m hm => by have := h m _ hm (List.getElem?_eq_getElem (by omega)); simpa using this⟩
theorem off_at {now : List Pr} {x p : Pr} {j : Nat} (hp : now[j]? = some p) (ha : p.a = x.a) (h : ∀ m y, m < j → now[m]? = some y → y.a ≠ x.a) : offL now x = (p.v != x.v) := by
  unfold offL; rw [posL_here hp ha h]; simp [List.getD, hp]
theorem off_none {now : List Pr} {x : Pr} (h : ∀ m y, m < now.length → now[m]? = some y → y.a ≠ x.a) : offL now x = false := by
  unfold offL
  rw [posL_none.2 (fun y hy => by
    obtain ⟨k, hk, rfl⟩ := List.mem_iff_getElem.1 hy
    exact h k _ hk (List.getElem?_eq_getElem hk))]
theorem grow_k {l : List Pr} {p : Pr → Prop} {i : Nat} {x : Pr} (h : ∀ k y, k < i → l[k]? = some y → p y) (hx : l[i]? = some x) (hp : p x) : ∀ k y, k < i + 1 → l[k]? = some y → p y := fun k y hk hy => by
  by_cases hki : k = i
  · subst hki; rw [hx] at hy; cases hy; exact hp
  · exact h k y (by omega) hy

set_option maxRecDepth 100000 in
set_option maxHeartbeats 2000000 in
theorem broken_in {a : Nat} {f : Lg} {S : Nat → Prop} (w : World) (h : LgAt w S a f) (ad : Option Addr) (cap : Nat) (now : List Pr) (hnow : RowsIn w ad 2 Pr.cells now) (hln : now.length ≤ 100000) :
    CallsIn Fence.wide 9 Try.prog 20 #[.pointer (some ⟨a, 0, none⟩), .slice ad now.length cap] w fun e w' => e = .returned (BrkAns f.r now) ∧ Below w.heap.size w w' := by
  have hB0 : Below w.heap.size w ((((w.alloc (.cells #[.slice ad now.length cap] 26)).alloc (.cells #[.int .i64 0] 3)).alloc (.cells #[.bool false] 4)).alloc (.cells #[.pointer (some ⟨a, 1, none⟩)] 74)) := (((((Below.refl _ w).alloc (Nat.le_refl _) _).alloc (by simp) _).alloc (by simp; omega) _).alloc (by simp; omega) _)
  have hN := fun V hV => none_any (h.below (w' := V) hV)
  have b0 : Holds ((((w.alloc (.cells #[.slice ad now.length cap] 26)).alloc (.cells #[.int .i64 0] 3)).alloc (.cells #[.bool false] 4)).alloc (.cells #[.pointer (some ⟨a, 1, none⟩)] 74)) w.heap.size 26 [.slice ad now.length cap] := (((Holds.new w 26 [.slice ad now.length cap]).alloc _).alloc _).alloc _
  have b1 : Holds ((((w.alloc (.cells #[.slice ad now.length cap] 26)).alloc (.cells #[.int .i64 0] 3)).alloc (.cells #[.bool false] 4)).alloc (.cells #[.pointer (some ⟨a, 1, none⟩)] 74)) (w.heap.size + 1) 3 [.int .i64 0] := by
    have := Holds.new (w.alloc (.cells #[.slice ad now.length cap] 26)) 3 [.int .i64 0]
    simp only [World.size_alloc] at this
    exact (this.alloc _).alloc _
  have b2 : Holds ((((w.alloc (.cells #[.slice ad now.length cap] 26)).alloc (.cells #[.int .i64 0] 3)).alloc (.cells #[.bool false] 4)).alloc (.cells #[.pointer (some ⟨a, 1, none⟩)] 74)) (w.heap.size + 2) 4 [.bool false] := by
    have := Holds.new ((w.alloc (.cells #[.slice ad now.length cap] 26)).alloc (.cells #[.int .i64 0] 3)) 4 [.bool false]
    simp only [World.size_alloc] at this
    exact this.alloc _
  have b3 : Holds ((((w.alloc (.cells #[.slice ad now.length cap] 26)).alloc (.cells #[.int .i64 0] 3)).alloc (.cells #[.bool false] 4)).alloc (.cells #[.pointer (some ⟨a, 1, none⟩)] 74)) (w.heap.size + 3) 74 [.pointer (some ⟨a, 1, none⟩)] := by
    have := Holds.new (((w.alloc (.cells #[.slice ad now.length cap] 26)).alloc (.cells #[.int .i64 0] 3)).alloc (.cells #[.bool false] 4)) 74 [.pointer (some ⟨a, 1, none⟩)]
    simp only [World.size_alloc] at this
    exact this
  have hsz : ((((w.alloc (.cells #[.slice ad now.length cap] 26)).alloc (.cells #[.int .i64 0] 3)).alloc (.cells #[.bool false] 4)).alloc (.cells #[.pointer (some ⟨a, 1, none⟩)] 74)).heap.size = w.heap.size + 4 := by simp
  have H := Lib.hid h; clear h
  have HN := Lib.hid hN; clear hN
  have Hnow := Lib.hid hnow; clear hnow
  have HB0 := Lib.hid hB0; clear hB0
  have B0 := Lib.hid b0; clear b0
  have B1 := Lib.hid b1; clear b1
  have B2 := Lib.hid b2; clear b2
  have B3 := Lib.hid b3; clear b3
  have Hsz := Lib.hid hsz; clear hsz
  refine callsIn_of_wp_marks Try.func20 rfl trivial ?_ rfl
  simp only [Try.ntmps20, List.size_toArray, List.length_cons, List.length_nil, Nat.reduceAdd, Nat.reduceSub, Array.replicate_succ, Array.replicate_zero, List.push_toArray, List.append_toArray, List.nil_append, List.cons_append]
  gi_wp2
  refine wpIn_wide.2 (wp_scope_straight ((wpIn_wide (n := 9)).1 ?_))
  gi_wp2_with (gi_at_call 31; refine (callsIn_wide.2 (HN.out _ ((((Below.refl _ w).alloc (Nat.le_refl _) _).alloc (by simp) _).alloc (by simp; omega) _))).mono ?_; rintro e w2 ⟨rfl, rfl⟩)
  refine wpIn_label ?_
  gi_wp2_with (gi_at_call 37; refine (callsIn_wide.2 (each_any a 1 _)).mono ?_; rintro e w2 ⟨rfl, rfl⟩)
  generalize (((w.alloc (.cells #[.slice ad now.length cap] 26)).alloc (.cells #[.int .i64 0] 3)).alloc (.cells #[.bool false] 4)).alloc (.cells #[.pointer (some ⟨a, 1, none⟩)] 74) = W0 at *
  obtain ⟨pr, br, pw, bw, hp', -⟩ := H.out
  have hp := hp'.same (fun k hk => HB0.out.block k (hp'.lt hk))
  have hCr : ∀ g, pr.ownBlock = some g → ¬ (W0.heap.size ≤ g ∨ g = w.heap.size + 1 ∨ g = w.heap.size + 2) := fun g e h => by
    have := hp'.lt (.inr (.inr (.inr (.inl e)))); have := Hsz.out; rcases h with h | h | h <;> omega
  refine each_own rfl rfl (gf := 39) (lb := #[.pointer (some ⟨w.heap.size + 1 + 1 + 1, 0, none⟩)]) rfl trivial (enters_of Try.func39 (by kernel_rfl) rfl)
    (each1_each (fun k => W0.heap.size ≤ k ∨ k = w.heap.size + 1 ∨ k = w.heap.size + 2) _ W0 (fun _ h => .inl h) hp.rl.row hp.rl.len (hp.c 1 rfl) (B3.out.cell (i := 0) rfl) hCr) kpC_t (kpC_b (.inl (by omega))) (fun _ => rfl)
    (BrkI f.r now W0) (BrkX f.r now w.heap.size W0) brkI_own brkX_own ⟨Tch.refl _ _, fun k x h => by cases h⟩ ?round ?done ?stop
  case round =>
    rintro pre k rest W hx hl hi
    obtain ⟨rfl, hk⟩ := leaf_pre hx
    obtain ⟨x, hxk⟩ : ∃ x, f.r[pre.length]? = some x := ⟨_, List.getElem?_eq_getElem hk⟩
    unfold encL RoundOwes
    rw [show f.r.getD pre.length Pr.zero = x from by simp [List.getD, hxk]]
    have Hxk := Lib.hid hxk
    clear hx hl hxk hp hp' hCr
    have Hi := Lib.hid hi; clear hi
    dsimp only
    have bW : Below W.heap.size W (W.alloc (.cells #[.int .i64 x.a, .int .u64 x.v] 48)) := (Below.refl _ W).alloc (Nat.le_refl _) _
    have hT1 : Tch (fun k => W0.heap.size ≤ k ∨ k = w.heap.size + 1 ∨ k = w.heap.size + 2) W (W.alloc (.cells #[.int .i64 x.a, .int .u64 x.v] 48)) := Tch.of_idle bW
    have hX := brkI_own (l := f.r) (now := now) (W0 := W0) pre W _ none Hi.out (grown_below bW) (fun r e => by cases e)
    have hB1 : Holds (W.alloc (.cells #[.int .i64 x.a, .int .u64 x.v] 48)) W.heap.size 48 [.int .i64 x.a, .int .u64 x.v] := Holds.new W 48 [.int .i64 x.a, .int .u64 x.v]
    have hKF : KeepsFrom W0.heap.size W (W.alloc (.cells #[.int .i64 x.a, .int .u64 x.v] 48)) := ⟨bW.size, fun k o _ hk _ => (bW.block k (Array.getElem?_eq_some_iff.1 hk).1).trans hk⟩
    have HX := Lib.hid (And.intro hX hB1)
    have HT1 := Lib.hid (And.intro hKF hT1)
    clear bW hX hB1 hT1 hKF
    gi_wp2
    refine ⟨HT1.out.1, HT1.out.2, fun V => BrkI f.r now W0 pre V ∧ Holds V W.heap.size 48 [.int .i64 x.a, .int .u64 x.v], fun u Y Z row hs hg hr => ⟨brkI_own pre Y Z row hs.1 hg hr, ownFrom_holds W0.heap.size W.heap.size _ (fun _ : Unit => [.int .i64 x.a, .int .u64 x.v]) () Y Z row hs.2 hg hr⟩, HX.out, ?_⟩
    rintro W2 - - ⟨⟨hT2, hno⟩, hbx2⟩
    have hT02 : Tch (fun k => w.heap.size ≤ k) w W2 := (HB0.out.size |> fun _ => (Tch.of_below HB0.out)).trans (hT2.mono (fun _ _ h => h.elim))
    have c3 : W2.cell? ⟨w.heap.size, 0, none⟩ = some (.slice ad now.length cap) := (hT2.holds (fun h => h) B0.out).cell (i := 0) rfl
    have HT02 := Lib.hid hT02; clear hT02
    have HT2 := Lib.hid hT2; clear hT2
    have Hno := Lib.hid hno; clear hno
    have Hbx2 := Lib.hid hbx2; clear hbx2
    have hs2 := HT2.out.size
    have Hs2 := Lib.hid hs2; clear hs2
    clear HX HT1 Hi
    gi_wp2
    gi_loopw [20] (fun i wr => ∃ j : Nat, j ≤ now.length ∧ i = .int .i64 j ∧ Tch (fun _ => False) W2 wr ∧ ∀ m y, m < j → now[m]? = some y → y.a ≠ x.a) (fun i _ => now.length - (intOf i).toNat)
    case atStart => exact ⟨0, Nat.zero_le _, rfl, Tch.refl _ _, fun m y h => by omega⟩
    case round =>
      obtain ⟨j, hj, rfl, hTr, hnj⟩ := hrel
      have HTr := Lib.hid hTr; clear hTr
      have Hnj := Lib.hid hnj; clear hnj
      clear c3
      by_cases hlt : j < now.length
      · obtain ⟨p, hpj⟩ : ∃ p, now[j]? = some p := ⟨_, List.getElem?_eq_getElem hlt⟩
        obtain ⟨q, c, rfl, hq, hr⟩ := Hnow.out.row hpj
        have hrb : ∀ i v, p.cells[i]? = some v → wr.cell? ⟨q, c + j * 2 + i, none⟩ = some v := fun i v hi => by
          rw [World.cell?_of_block (a := ⟨q, c + j * 2 + i, none⟩) ((HTr.out.block q (Nat.lt_of_lt_of_le hq HT02.out.size) (fun h => h)).trans (HT02.out.block q hq (by simp; omega)))]
          exact hr i v hi
        have r0 := hrb 0 _ rfl
        have r1 := hrb 1 _ rfl
        clear hr hrb
        simp only [Nat.add_zero] at r0
        have bV : Below wr.heap.size wr (wr.alloc (.cells #[.int .i64 p.a, .int .u64 p.v] 48)) := (Below.refl _ wr).alloc (Nat.le_refl _) _
        have hXr := HTr.out.holds (fun h => h) Hbx2.out
        have hXl := hXr.lt
        have x0 := hXr.cell (i := 0) rfl
        have x1 := hXr.cell (i := 1) rfl
        have hT0r := HT2.out.trans HTr.out
        have k1 := (hT0r.holds (fun h => h) B1.out).cell (i := 0) rfl
        have k2 : wr.cell? ⟨w.heap.size + 1 + 1, 0, none⟩ = some (.bool false) := (hT0r.holds (fun h => h) B2.out).cell (i := 0) rfl
        have f1 := (hT0r.holds (fun h => h) B1.out).free 0
        have f2 : wr.frozen? ⟨w.heap.size + 1 + 1, 0, none⟩ = false := (hT0r.holds (fun h => h) B2.out).free 0
        have hw4 : w.heap.size + 1 < wr.heap.size := by have := hT0r.size; have := Hsz.out; omega
        have hw5 : w.heap.size + 1 + 1 < wr.heap.size := by have := hT0r.size; have := Hsz.out; omega
        have HT0r := Lib.hid hT0r; clear hT0r
        have HbV := Lib.hid bV; clear bV
        clear hXr
        have Hpj := Lib.hid hpj; clear hpj
        by_cases ha : p.a = x.a
        · have na : (p.a != x.a) = false := by simp [ha]
          have Ha := Lib.hid ha; clear ha
          by_cases hv : p.v = x.v
          · have nv : (p.v == x.v) = true := by simp [hv]
            have Hv := Lib.hid hv; clear hv
            gi_wp2
            have hTb := HTr.out.trans (Tch.of_idle (C := fun _ => False) HbV.out)
            exact ⟨hTb.keepsFrom (fun _ _ h => h.elim), hTb.mono (fun _ _ h => h.elim), HT2.out.trans hTb, by
              rw [List.length_append, List.length_singleton]
              exact grow_k (p := fun y => offL now y = false) Hno.out Hxk.out (by rw [off_at Hpj.out Ha.out Hnj.out]; simp [Hv.out])⟩
          · have nv : (p.v == x.v) = false := by simp [hv]
            have Hv := Lib.hid hv; clear hv
            gi_wp2
            have hoff : offL now x = true := by rw [off_at Hpj.out Ha.out Hnj.out]; simp [Hv.out]
            have hbr : brokenL f.r now = some pre.length := broken_at Hxk.out hoff Hno.out
            have hT5 : Tch (fun k => k = w.heap.size + 1 ∨ k = w.heap.size + 2) W2 (((wr.setCell ⟨w.heap.size + 1, 0, none⟩ (.int .i64 (pre.length : Nat))).setCell ⟨w.heap.size + 1 + 1, 0, none⟩ (.bool true)).alloc (.cells #[.int .i64 p.a, .int .u64 p.v] 48)) :=
              (((HTr.out.mono (fun _ _ h => h.elim)).setCell (p := ⟨w.heap.size + 1, 0, none⟩) (.inl (.inl rfl)) _).setCell (p := ⟨w.heap.size + 1 + 1, 0, none⟩) (.inl (.inr rfl)) _).alloc _
            have hT6 := HT2.out.trans HTr.out
            have hKF : KeepsFrom W0.heap.size W2 (((wr.setCell ⟨w.heap.size + 1, 0, none⟩ (.int .i64 (pre.length : Nat))).setCell ⟨w.heap.size + 1 + 1, 0, none⟩ (.bool true)).alloc (.cells #[.int .i64 p.a, .int .u64 p.v] 48)) :=
              hT5.keepsFrom (fun k o h hk _ => by have := Hsz.out; rcases h with h | h <;> omega)
            refine ⟨hKF, hT5.mono (fun _ _ h => .inr h), ⟨⟨(HT2.out.mono (fun _ _ h => h.elim)).trans hT5, ?_⟩, ?_⟩, rfl, by rw [hbr]; rfl⟩
            · rw [hbr]
              exact (((hT6.holds (fun h => h) B1.out).set 0 _).other (p := ⟨w.heap.size + 1 + 1, 0, none⟩) (by simp) _).alloc _
            · exact (((hT6.holds (fun h => h) B2.out).other (p := ⟨w.heap.size + 1, 0, none⟩) (by simp) _).set 0 _).alloc _
        · have na : (p.a != x.a) = true := by simp [ha]
          have Ha := Lib.hid ha; clear ha
          gi_wp2
          go_roundw
          case rel => exact ⟨j + 1, by omega, by simp, HTr.out.trans (Tch.of_idle HbV.out), grow_k Hnj.out Hpj.out Ha.out⟩
          case measure => simp [intOf]; omega
      · obtain rfl : j = now.length := by omega
        gi_wp2
        exact ⟨HTr.out.keepsFrom (fun _ _ h => h.elim), HTr.out.mono (fun _ _ h => h.elim), HT2.out.trans HTr.out, by
          rw [List.length_append, List.length_singleton]
          exact grow_k (p := fun y => offL now y = false) Hno.out Hxk.out (off_none Hnj.out)⟩
  case done =>
    rintro W ⟨hT, hno⟩ hK
    rw [List.length_range] at hno
    have k1 := hT.holds (fun h => h) B1.out
    have k2 := hT.holds (fun h => h) B2.out
    have c1 := k1.cell (i := 0) rfl
    have f1 := k1.free 0
    have c2 : W.cell? ⟨w.heap.size + 1 + 1, 0, none⟩ = some (.bool false) := k2.cell (i := 0) rfl
    have f2 : W.frozen? ⟨w.heap.size + 1 + 1, 0, none⟩ = false := k2.free 0
    have K1 := Lib.hid k1; clear k1
    have K2 := Lib.hid k2; clear k2
    have HT := Lib.hid hT; clear hT
    have HK := Lib.hid hK; clear hK
    have Hno := Lib.hid hno; clear hno
    gi_wp2
    have hK2 := (KeepsOthers.setCell (W.setCell ⟨w.heap.size + 1, 0, none⟩ (.int .i64 0)) ⟨w.heap.size + 1 + 1, 0, none⟩ (.bool false)).same _ _ ((KeepsOthers.setCell W ⟨w.heap.size + 1, 0, none⟩ (.int .i64 0)).same _ _ HK.out rfl) rfl
    rw [Exit.noGoto_ret]
    refine leaves_mark hK2 ?_
    have q1 := ((K1.out.set 0 (.int .i64 0)).other (p := ⟨w.heap.size + 1 + 1, 0, none⟩) (by simp) (.bool false)).putObj hK2 rfl (.deferred none)
    have q2 := ((K2.out.other (p := ⟨w.heap.size + 1, 0, none⟩) (by simp) (.int .i64 0)).set 0 (.bool false)).putObj hK2 rfl (.deferred none)
    refine ⟨BrkAns f.r now, ?_, rfl, ?_⟩
    · have r1 := q1.cell (i := 0) rfl
      have r2 : World.cell? _ ⟨w.heap.size + 1 + 1, 0, none⟩ = some (.bool false) := q2.cell (i := 0) rfl
      unfold BrkAns
      rw [broken_none Hno.out]
      simp [results, Try.f20, go_sem, r1, r2]
    · refine HB0.out.trans (Tch.below (C := fun k => w.heap.size ≤ k) ?_ HB0.out.size (fun _ h => h))
      exact (((HT.out.mono (fun _ _ h => h.elim)).setCell (.inl (by simp)) _).setCell (.inl (by simp; omega)) _).putObj (.inl HB0.out.size) _
  case stop =>
    rintro c pre W _ ⟨⟨⟨hT, k1⟩, k2⟩, rfl, hsome⟩ hK
    have K1 := Lib.hid k1; clear k1
    have K2 := Lib.hid k2; clear k2
    have HT := Lib.hid hT; clear hT
    gi_wp2
    rw [Exit.noGoto_ret]
    refine leaves_mark hK ?_
    have q1 := K1.out.putObj hK rfl (.deferred none)
    have q2 := K2.out.putObj hK rfl (.deferred none)
    refine ⟨BrkAns f.r now, ?_, rfl, ?_⟩
    · have r1 := q1.cell (i := 0) rfl
      have r2 : World.cell? _ ⟨w.heap.size + 1 + 1, 0, none⟩ = some (.bool true) := q2.cell (i := 0) rfl
      unfold BrkAns
      rw [hsome]
      simp [results, Try.f20, go_sem, r1, r2]
    · refine HB0.out.trans (Tch.below (C := fun k => w.heap.size ≤ k) ?_ HB0.out.size (fun _ h => h))
      exact (HT.out.mono (fun _ _ h => by rcases h with h | h <;> omega)).putObj (.inl HB0.out.size) _

end Go.Proofs.Ytfngfphoefpndaa
