/- hist: mayFollow, pass. Conditions: those stated in each theorem. -/
import Derived.Test.YtgjbhcnadenojaaHisH
namespace Go.Proofs.Ytgjbhcnadenojaa
open Go.RowKit Go.BigFrame Go.Maps

/-- What is known, plainly. -/
def SC.rd (c : SC) : Rd := ⟨c.l.map (·.k), c.pl, c.o⟩
theorem SC.rd_get (c : SC) {i : Nat} {x : KC} (h : c.l[i]? = some x) : c.rd.ks.getD i Kn.zero = x.k := by simp [SC.rd, List.getD, h]

section
variable {w0 w : World} {c : SC} {i g : Nat} {x : KC}
/-- An event's box. -/
structure EvBox (W : World) (n : Nat) (e : Ev) : Prop where
  c0 : W.cell? ⟨n, 0, none⟩ = some (.int .i64 e.k)
  c1 : W.cell? ⟨n, 1, none⟩ = some (.int .i64 e.tm)
  c2 : W.cell? ⟨n, 2, none⟩ = some (.int .i64 e.co)
  c3 : W.cell? ⟨n, 3, none⟩ = some (.int .i64 e.bl)
  c4 : W.cell? ⟨n, 4, none⟩ = some (.int .i64 e.tr)
  c5 : W.cell? ⟨n, 5, none⟩ = some (.int .i64 e.la)
  c6 : W.cell? ⟨n, 6, none⟩ = some (.int .i64 e.ad)
  c7 : W.cell? ⟨n, 7, none⟩ = some (.int .u64 e.va)
  c8 : W.cell? ⟨n, 8, none⟩ = some (.int .i64 e.cd)
theorem EvBox.of {W : World} {n : Nat} {e : Ev} (h : Holds W n 61 e.cells) : EvBox W n e :=
  ⟨h.cell rfl, h.cell rfl, h.cell rfl, h.cell rfl, h.cell rfl, h.cell rfl, h.cell rfl, h.cell rfl, h.cell rfl⟩

set_option maxRecDepth 100000 in
set_option maxHeartbeats 1000000 in
theorem pass_any (h : Ap w0 w c.pf) (e : Ev) (he : e.fit) (pl : Int) (hp : (Lit.int .i64 pl).wf = true) (hn : c.n < 100000) :
    Calls Try.prog 30 #[.map (some c.bo), e.val, .int .i64 pl] w fun z w' => z = .returned (.tuple #[]) ∧ Ap w0 w' { c with n := c.n + 1, o := passO c.o e pl }.pf := by
  have hA : Ap w0 (w.alloc (.cells e.cells.toArray 61)) c.pf := h.idle ((Below.refl _ w).alloc (Nat.le_refl _) _)
  have hB : EvBox (w.alloc (.cells e.cells.toArray 61)) w.heap.size e := .of (Holds.new _ _ _)
  have h0 : Ap w0 (w.alloc (.cells e.cells.toArray 61)) { c with n := c.n + 1, o := c.o }.pf := by
    obtain ⟨T, t1, -, t3⟩ := hA.turn (i := Ix.op) rfl
    refine (t3 _ (mapP 3 .i64 c.bo (c.n + 1) c.o) ⟨⟨t1.1.more (Nat.le_succ _), .inl t1.2⟩, Tch.refl _ _⟩).cong (fun m => ?_)
    cases m <;> simp only [SC.pf, upd, reduceCtorEq, if_false, if_true]
  obtain ⟨T, t1, -, t3⟩ := hA.turn (i := Ix.op) rfl
  have Ht1 := Lib.hid t1; clear t1
  have HT : Hid (∀ w' f', MpAt w' 3 .i64 c.bo (c.n + 1) f' → World.grownBy (w.alloc (.cells e.cells.toArray 61)) w' (some c.bo) → Ap w0 w' { c with n := c.n + 1, o := f' }.pf) := Lib.hid (fun w' f' h1 h2 => by
    refine (t3 _ _ (mapP.grew Ht1.out h1 h2)).cong (fun m => ?_)
    cases m <;> simp only [SC.pf, upd, reduceCtorEq, if_false, if_true])
  have H0 := Lib.hid h0
  have HF := Lib.hid he
  have HP := Lib.hid hp
  clear h0 he hp t3 h hA
  obtain ⟨ek, etm, eco, ebl, etr, ela, ead, eva, ecd⟩ := e
  obtain ⟨b0, -, b2, -, -, -, -, -, -⟩ := hB
  simp only [Ev.cells] at b0 b2 Ht1 HT H0 HF
  unfold Ev.val
  by_cases e1 : ek = 1
  · subst e1
    go_enter Try.func30, Try.ntmps30
    go_wp2_with (at_mapUpdate; refine mp_put Try.underlying79 Try.underlying3 rfl _ _ _ rfl c.bo c.n c.o eco pl rfl rfl rfl Ht1.out.1 HF.out.1 HP.out (by unfold maxLen; omega) ?_; intro w3 hm3 hg3; have HR := Lib.hid (HT.out w3 _ hm3 hg3); clear hm3 hg3)
    go_end0
    exact ⟨rfl, HR.out⟩
  · have b1 : (ek == 1) = false := by simpa using e1
    by_cases e5 : ek = 5
    · subst e5
      go_enter Try.func30, Try.ntmps30
      go_wp2_with (at_delete; refine mp_del Try.underlying79 rfl _ _ rfl c.bo c.n c.o eco rfl rfl Ht1.out.1 HF.out.1 ?_; intro w3 hm3 hg3; have HR := Lib.hid (HT.out w3 _ (hm3.more (Nat.le_succ _)) hg3); clear hm3 hg3)
      go_end0
      exact ⟨rfl, HR.out⟩
    · have b5 : (ek == 5) = false := by simpa using e5
      by_cases e6 : ek = 6
      · subst e6
        go_enter Try.func30, Try.ntmps30
        go_wp2_with (at_delete; refine mp_del Try.underlying79 rfl _ _ rfl c.bo c.n c.o eco rfl rfl Ht1.out.1 HF.out.1 ?_; intro w3 hm3 hg3; have HR := Lib.hid (HT.out w3 _ (hm3.more (Nat.le_succ _)) hg3); clear hm3 hg3)
        go_end0
        exact ⟨rfl, HR.out⟩
      · have b6 : (ek == 6) = false := by simpa using e6
        have hk : passO c.o ⟨ek, etm, eco, ebl, etr, ela, ead, eva, ecd⟩ pl = c.o := by simp only [passO, if_neg e1, if_neg e5, if_neg e6]
        rw [hk]
        clear hk e1 e5 e6
        go_enter Try.func30, Try.ntmps30
        go_wp2
        go_end0
        exact ⟨rfl, H0.out⟩

set_option maxRecDepth 100000 in
set_option maxHeartbeats 1000000 in
theorem mayFollow_any (h : Ap w0 w c.pf) (e : Ev) (he : e.fit) (ho : ∀ v, c.o e.co = some v → 0 ≤ v ∧ v.toNat < c.l.length) :
    Calls Try.prog 41 #[.pointer (some ⟨c.p, 0, none⟩), .map (some c.bo), e.val] w fun z w' => z = .returned (.bool (c.rd.follows e)) ∧ Below w.heap.size w w' := by
  have hW : Below w.heap.size w (w.alloc (.cells e.cells.toArray 61)) := (Below.refl _ w).alloc (Nat.le_refl _) _
  have HB := Lib.hid (Holds.new w 61 e.cells)
  have hA := h.idle hW
  have HP : Hid (∀ V, Calls Try.prog 28 #[.int .i64 e.k] V fun z w' => z = .returned (.bool (plainK e.k)) ∧ V = w') := Lib.hid (fun V => plain_any e.k)
  have R1 := (SC.op hA).run_ok Try.underlying79 Try.underlying3 Try.zeroI he.1
  have hB : EvBox (w.alloc (.cells e.cells.toArray 61)) w.heap.size e := .of (Holds.new _ _ _)
  obtain ⟨b0, b1, b2, b3, b4, b5, b6, b7, b8⟩ := hB
  have s1 := (SC.sto hA).cell (i := 1) rfl
  obtain ⟨ek, etm, eco, ebl, etr, ela, ead, eva, ecd⟩ := e
  simp only [Ev.cells] at b0 b1 b2 b3 b4 b5 b6 b7 b8 R1 HP hW HB hA s1 ho
  unfold Ev.val
  have HA := Lib.hid hA; clear hA
  have HW := Lib.hid hW; clear hW
  have HO := Lib.hid ho; clear ho
  clear h he
  cases hc : c.o eco with
  | none =>
    rw [hc] at R1
    simp only [Option.getD_none, Option.isSome_none] at R1
    by_cases e1 : ek = 1
    · subst e1
      have hf : c.rd.follows ⟨1, etm, eco, ebl, etr, ela, ead, eva, ecd⟩ = true := by simp [Rd.follows, SC.rd, hc]
      rw [hf]
      clear hf hc
      go_enter Try.func41, Try.ntmps41
      go_wp2_with fail
      go_ret
      exact ⟨rfl, HW.out⟩
    · have e1' : (ek == 1) = false := by simpa using e1
      cases hp : plainK ek
      all_goals
        rw [hp] at HP
        first
        | (have hf : c.rd.follows ⟨ek, etm, eco, ebl, etr, ela, ead, eva, ecd⟩ = true := by simp [Rd.follows, SC.rd, hc, hp, e1]
           rw [hf]; clear hf)
        | (have hf : c.rd.follows ⟨ek, etm, eco, ebl, etr, ela, ead, eva, ecd⟩ = false := by simp [Rd.follows, SC.rd, hc, hp, e1]
           rw [hf]; clear hf)
        clear hc hp e1
        go_enter Try.func41, Try.ntmps41
        go_wp2_with (go_at_call 28; refine (HP.out _).mono ?_; rintro z w' ⟨rfl, rfl⟩)
        first
        | (go_ret; exact ⟨rfl, HW.out⟩)
        | (go_quiet (fail)
           go_wp2
           go_ret
           exact ⟨rfl, below_drewN HW.out _⟩)
  | some v =>
    obtain ⟨hv0, hvl⟩ := HO.out v hc
    obtain ⟨x, hx⟩ : ∃ x, c.l[v.toNat]? = some x := ⟨_, List.getElem?_eq_getElem hvl⟩
    obtain ⟨j, rfl⟩ : ∃ j : Nat, v = (j : Int) := ⟨v.toNat, by omega⟩
    simp only [Int.toNat_natCast] at hx hvl
    obtain ⟨g, cap, hva⟩ := SC.va_form HA.out hx
    rw [hc] at R1
    simp only [Option.getD_some, Option.isSome_some] at R1
    by_cases e1 : ek = 1
    · subst e1
      have hf : c.rd.follows ⟨1, etm, eco, ebl, etr, ela, ead, eva, ecd⟩ = false := by simp [Rd.follows, SC.rd, hc]
      rw [hf]
      clear hf hc hva hx hv0
      go_enter Try.func41, Try.ntmps41
      go_wp2_with fail
      go_ret
      exact ⟨rfl, HW.out⟩
    · have e1' : (ek == 1) = false := by simpa using e1
      cases hp : plainK ek
      · rw [hp] at HP
        have hf : c.rd.follows ⟨ek, etm, eco, ebl, etr, ela, ead, eva, ecd⟩ = x.k.has ⟨ek, etm, eco, ebl, etr, ela, ead, eva, ecd⟩ := by
          have := c.rd_get hx
          simp only [Rd.follows, hp, e1, if_false, Bool.false_eq_true]
          simp only [SC.rd] at this ⊢
          rw [hc]
          simp only [Option.isSome_some, Bool.true_and, Option.getD_some, Int.toNat_natCast]
          rw [this]
        rw [hf]
        have HH : Hid (∀ V, Below (w.alloc (.cells #[.int .i64 ek, .int .i64 etm, .int .i64 eco, .int .i64 ebl, .int .i64 etr, .int .i64 ela, .int .i64 ead, .int .u64 eva, .int .i64 ecd] 61)).heap.size (w.alloc (.cells #[.int .i64 ek, .int .i64 etm, .int .i64 eco, .int .i64 ebl, .int .i64 etr, .int .i64 ela, .int .i64 ead, .int .u64 eva, .int .i64 ecd] 61)) V →
            Calls Try.prog 49 #[.pointer (some ⟨g, j * 14, none⟩), Ev.val ⟨ek, etm, eco, ebl, etr, ela, ead, eva, ecd⟩] V fun z w' => z = .returned (.bool (x.k.has ⟨ek, etm, eco, ebl, etr, ela, ead, eva, ecd⟩)) ∧ Below V.heap.size V w') := Lib.hid (fun V hV => khas_any (SC.cells (HA.out.idle hV) hx (by rw [hva]; rfl)) ⟨ek, etm, eco, ebl, etr, ela, ead, eva, ecd⟩)
        rw [hva] at s1
        have hjl : (0 : Int) ≤ (j : Int) ∧ (j : Int) < (c.l.length : Int) := by omega
        clear hf hc hp e1 hva hx hv0
        unfold Ev.val at HH
        go_enter Try.func41, Try.ntmps41
        go_wp2_with (go_at_call 28; refine (HP.out _).mono ?_; rintro z w' ⟨rfl, rfl⟩)
        generalize w.alloc (.cells #[.int .i64 ek, .int .i64 etm, .int .i64 eco, .int .i64 ebl, .int .i64 etr, .int .i64 ela, .int .i64 ead, .int .u64 eva, .int .i64 ecd] 61) = W0 at *
        go_still_tail 9, (by kernel_rfl)
        change wpList _ _ _ _ _ W0.drew
        go_wp2_with (go_at_call 49; refine (HH.out _ (below_drew1 (Below.refl _ _))).mono ?_; rintro z w' ⟨rfl, hb⟩; have Hb := Lib.hid hb; clear hb)
        go_ret
        exact ⟨rfl, (below_drew1 HW.out).trans (Hb.out.mono HW.out.size)⟩
      · rw [hp] at HP
        have hf : c.rd.follows ⟨ek, etm, eco, ebl, etr, ela, ead, eva, ecd⟩ = false := by simp [Rd.follows, SC.rd, hc, hp, e1]
        rw [hf]
        clear hf hc hp e1 hva hx hv0
        go_enter Try.func41, Try.ntmps41
        go_wp2_with (go_at_call 28; refine (HP.out _).mono ?_; rintro z w' ⟨rfl, rfl⟩)
        go_ret
        exact ⟨rfl, HW.out⟩
end

end Go.Proofs.Ytgjbhcnadenojaa
