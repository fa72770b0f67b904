/- hist: read. Conditions: those stated in each theorem. -/
import Derived.Test.YtgjbhcnadenojaaHisL
import Derived.Test.YtgjbhcnadenojaaHisQ
import Derived.Test.YtgjbhcnadenojaaCame
import Derived.LoopN
namespace Go.Proofs.Ytgjbhcnadenojaa
open Go.RowKit Go.BigFrame Go.Maps

theorem Try.infoInt : (Try.prog.info? 3).map (fun i => (i.zero, i.size, i.bytes)) = some (some (.int .i64 0), 1, 8) := by kernel_rfl
theorem Try.sizeEv : (Try.prog.info? 61).map (·.size) = some 9 := by kernel_rfl
section
variable {w0 w : World} {c : SC} {i g : Nat} {x : KC}
theorem SC.placed (h : Ap w0 w c.pf) {w1 w2 : World} (hb : Below w.heap.size w w1) {v' : Value} {z : Int} (hr : w2.ownsRow 0 3 1 v' (c.pl.length + 1) (c.pl.map (.int .i64) ++ [.int .i64 z])) (hg : w1.grownBy w2 c.vp.ownBlock) (hat : ∀ k, v'.ownBlock = some k → c.vp.ownBlock = some k ∨ w1.heap.size ≤ k) :
    Ap w0 (w2.setCell ⟨c.p, 2, none⟩ v') { c with vp := v', pl := c.pl ++ [z] }.pf := by
  obtain ⟨T, t1, -, t3⟩ := (h.idle hb).turn (i := Ix.pl) rfl
  have a5 := t3 w2 _ (rowP.grew t1 hr hg hat)
  obtain ⟨T2, u1, -, u3⟩ := a5.turn (i := Ix.sto) (P := cellsP c.p 75 [c.ev, c.va, c.vp]) (by simp [SC.pf, upd])
  refine (u3 _ _ (cellsP.set u1 2 v')).cong (fun m => ?_)
  cases m <;> simp only [SC.pf, upd, reduceCtorEq, if_false, if_true, List.length_append, List.length_singleton, List.map_append, List.map_cons, List.map_nil, List.set_cons_succ, List.set_cons_zero]
theorem SC.sto_grown (h : Ap w0 w c.pf) {w1 w2 : World} (hb : Below w.heap.size w w1) (hg : w1.grownBy w2 c.vp.ownBlock) : Holds w2 c.p 75 [c.ev, c.va, c.vp] := by
  have h1 := SC.sto (h.idle hb)
  obtain ⟨T, ⟨t1, _⟩, _⟩ := (h.idle hb).get (i := Ix.pl) rfl
  refine h1.same (hg.block c.p h1.lt (fun e => ?_))
  obtain ⟨c2, hc2⟩ := owns_kind t1 e.symm
  unfold Holds at h1
  rw [hc2] at h1
  cases h1
theorem SC.placedAt {P : Nat} (h : Ap w0 w c.pf) (hp : c.p = P) {w1 w2 : World} (hb : Below w.heap.size w w1) {v' : Value} {z : Int} {n : Nat} (hn : c.pl.length = n) {vp : Value} (hvp : c.vp = vp) (hr : w2.ownsRow 0 3 1 v' (n + 1) (c.pl.map (.int .i64) ++ [.int .i64 z])) (hg : w1.grownBy w2 vp.ownBlock) (hat : v'.ownBlock = vp.ownBlock ∨ v'.ownBlock = some w1.heap.size) :
    Ap w0 (w2.setCell ⟨P, 2, none⟩ v') { c with vp := v', pl := c.pl ++ [z] }.pf ∧ w2.cell? ⟨P, 2, none⟩ = some vp ∧ w2.frozen? ⟨P, 2, none⟩ = false := by
  subst hp hn hvp
  have hs := SC.sto_grown h hb hg
  exact ⟨SC.placed h hb hr hg (fun k e => hat.imp (fun e2 => by rw [← e2]; exact e) (fun e2 => by rw [e] at e2; cases e2; exact Nat.le_refl _)), hs.cell (i := 2) rfl, hs.free 2⟩
theorem SC.plRow (h : Ap w0 w c.pf) {n : Nat} (hn : c.pl.length = n) {vp : Value} (hvp : c.vp = vp) : w.ownsRow 0 3 1 vp n (c.pl.map (.int .i64)) := by
  subst hn hvp
  obtain ⟨T, ⟨t1, _⟩, _⟩ := h.get (i := Ix.pl) rfl
  exact t1
theorem mapP.newAt {W : World} {b : Nat} (hb : W.heap.size = b) {e : TypeId} {q : IntKind} : (mapP e q b 0 Mp.none).at_ (W.alloc (.map #[] 0)) (fun k => W.heap.size ≤ k ∧ k < (W.alloc (.map #[] 0)).heap.size) := by
  subst hb; exact mapP.new W e q
/-- A history in memory. -/
def EvIn (w : World) (v : Value) (h : List Ev) : Prop := ∃ a cap, v = .slice a h.length cap ∧ RowsIn w a 9 Ev.cells h
theorem EvIn.below {w' : World} {v : Value} {h : List Ev} (e : EvIn w v h) (hb : Below w.heap.size w w') : EvIn w' v h := by
  obtain ⟨a, cap, e1, e2⟩ := e
  exact ⟨a, cap, e1, e2.below hb⟩
/-- What read leaves. -/
def ReadO (w : World) (ev : Value) (h : List Ev) (z : Ending) (w' : World) : Prop :=
  (readH h = none ∧ z = .returned (.tuple #[.pointer none, .int .i64 120]) ∧ Below w.heap.size w w') ∨
  ∃ c : SC, readH h = some c.rd ∧ z = .returned (.tuple #[.pointer (some ⟨c.p, 0, none⟩), .int .i64 0]) ∧ c.ev = ev ∧ RI c.rd h.length ∧ Ap w w' c.pf
theorem Rd.go_at {s : Rd} {h : List Ev} {k : Nat} {e : Ev} (hx : h[k]? = some e) : s.go k (h.drop k) = if s.ok e then (s.step (k : Nat) e).go (k + 1) (h.drop (k + 1)) else none := by
  obtain ⟨hl, rfl⟩ := List.getElem?_eq_some_iff.1 hx
  rw [List.drop_eq_getElem_cons hl, Rd.go]

set_option maxRecDepth 100000 in
set_option maxHeartbeats 8000000 in
theorem read_any {a : Option Addr} {cap : Nat} {h : List Ev} (w : World) (hr : RowsIn w a 9 Ev.cells h) (hl : h.length ≤ 900) (hf : ∀ e ∈ h, e.fit) :
    Calls Try.prog 26 #[.slice a h.length cap] w fun z w' => ReadO w (.slice a h.length cap) h z w' := by
  have hmm := @run_makeMap Try.prog
  have Hr := Lib.hid hr; clear hr
  have Hf := Lib.hid hf; clear hf
  go_enter Try.func26, Try.ntmps26
  go_wp2_with fail
  clear hmm
  have hA0 : Ap w ((w.alloc (.cells #[.slice a h.length cap, .slice none 0 0, .slice none 0 0] 75)).alloc (.map #[] 0)) (SC.mk w.heap.size (.slice a h.length cap) (.slice none 0 0) [] (.slice none 0 0) [] (w.heap.size + 1) 0 Mp.none (fun _ => none)).pf := by
    have a1 := (Ap.nil (ι := Ix) w).push (i := Ix.sto) (P := cellsP w.heap.size 75 [.slice a h.length cap, .slice none 0 0, .slice none 0 0]) rfl ((Below.refl _ w).alloc (Nat.le_refl _) _) (cellsP.new w _ _)
    have a2 := a1.push (i := Ix.op) (P := mapP 3 .i64 (w.heap.size + 1) 0 Mp.none) (by simp [upd]) ((Below.refl _ _).alloc (Nat.le_refl _) (.map #[] 0)) (mapP.newAt (by simp))
    have a3 := a2.push (i := Ix.att) (P := rowP (.slice none 0 0) 78 14 0 []) (by simp [upd]) (Below.refl _ _) ⟨World.ownsRow_nil _ _ _ _, fun g e => by cases e⟩
    have a4 := a3.push (i := Ix.pl) (P := rowP (.slice none 0 0) 3 1 0 []) (by simp [upd]) (Below.refl _ _) ⟨World.ownsRow_nil _ _ _ _, fun g e => by cases e⟩
    refine a4.cong (fun m => ?_)
    cases m <;> simp [SC.pf, upd, flatK]
  have HA0 := Lib.hid hA0; clear hA0
  go_loopw [6, 7, 8, 15] (fun _ _ _ i wr => ∃ (k : Nat) (c : SC), k ≤ h.length ∧ i = .int .i64 k ∧ Ap w wr c.pf ∧ c.p = w.heap.size ∧ c.ev = .slice a h.length cap ∧ c.bo = w.heap.size + 1 ∧ c.ex = (fun _ => none) ∧ c.n = k ∧ RI c.rd k ∧ readH h = c.rd.go k (h.drop k))
    (fun _ _ _ i _ => h.length - (intOf i).toNat)
  case atStart => exact ⟨0, _, by omega, rfl, HA0.out, rfl, rfl, rfl, rfl, rfl, RI.zero, rfl⟩
  case round =>
    obtain ⟨k, c, hk, rfl, hA, hp, hev, hbo, hex, hn, hri, hgo⟩ := hrel
    have HA := Lib.hid hA; clear hA HA0
    have HP := Lib.hid hp; clear hp
    have HV := Lib.hid hev; clear hev
    have HO := Lib.hid hbo; clear hbo
    have HX := Lib.hid hex; clear hex
    have HN := Lib.hid hn; clear hn
    have HI := Lib.hid hri; clear hri
    have HG := Lib.hid hgo; clear hgo
    by_cases hlt : k < h.length
    · obtain ⟨e, hx⟩ : ∃ e, h[k]? = some e := ⟨h[k], List.getElem?_eq_getElem hlt⟩
      have hgo := HG.out
      rw [Rd.go_at hx] at hgo
      have Hgo := Lib.hid hgo; clear hgo
      have hfe : e.fit := Hf.out e (List.mem_of_getElem? hx)
      have hrw := Hr.out.below (HA.out.below.mono (Nat.le_refl _))
      obtain ⟨q, o, rfl, hq, hrr⟩ := hrw.row hx
      have Hrr := Lib.hid hrr; clear hrr hrw
      have Hfe := Lib.hid hfe; clear hfe
      have hbk : (0 : Int) ≤ k ∧ (k : Int) < h.length := by omega
      have hA1 : Ap w (wr.alloc (.cells e.cells.toArray 61)) { c with ex := updN c.ex 1 (some (cellsP wr.heap.size 61 e.cells)) }.pf := SC.box HA.out 1 61 e.cells
      have HA1 := Lib.hid hA1; clear hA1
      have HE : Hid (∀ V (c' : SC), Ap w V { c' with ex := updN c.ex 1 (some (cellsP wr.heap.size 61 e.cells)) }.pf → EvBox V wr.heap.size e) := Lib.hid (fun V c' hV => EvBox.of (SC.aux (n := 1) hV (by simp [updN])))
      have hoc : ∀ v, c.o e.co = some v → 0 ≤ v ∧ v.toNat < c.l.length := fun v hv => by
        obtain ⟨j, rfl, hj⟩ := HI.out.o _ _ hv
        simp only [SC.rd, List.length_map] at hj
        omega
      have HMF : Hid (∀ V, Ap w V { c with ex := updN c.ex 1 (some (cellsP wr.heap.size 61 e.cells)) }.pf → Calls Try.prog 41 #[.pointer (some ⟨w.heap.size, 0, none⟩), .map (some (w.heap.size + 1)), e.val] V fun z w' => z = .returned (.bool (c.rd.follows e)) ∧ Below V.heap.size V w') := Lib.hid (fun V hV => by
        have := mayFollow_any hV e Hfe.out hoc
        simp only at this
        rw [HP.out, HO.out] at this
        exact this)
      have HMB : Hid (∀ V, Calls Try.prog 40 #[e.val] V fun z w' => z = .returned (.bool e.may) ∧ Below V.heap.size V w') := Lib.hid (fun V => mayBe_any e)
      clear hoc
      cases hmay : e.may with
      | false =>
        have hno : readH h = none := by
          have := Hgo.out
          rwa [show c.rd.ok e = false from by simp [Rd.ok, hmay], if_neg (by simp)] at this
        rw [hmay] at HMB
        have HNo := Lib.hid hno; clear hno hmay
        obtain ⟨ek, etm, eco, ebl, etr, ela, ead, eva, ecd⟩ := e
        unfold Ev.val at HMB
        simp only [Ev.cells] at HA1
        go_wp2_with (first | (refine wpList_load_mid rfl 61 (.tmp 18) rfl q (o + k * 9) rfl [.int .i64 ek, .int .i64 etm, .int .i64 eco, .int .i64 ebl, .int .i64 etr, .int .i64 ela, .int .i64 ead, .int .u64 eva, .int .i64 ecd] _ ?_ Try.underlying61 rfl Try.sizeEv ?_; exact Hrr.out) | (go_at_call 40; refine (HMB.out _).mono ?_; rintro z w3 ⟨rfl, hb3⟩))
        go_ret2
        exact .inl ⟨HNo.out, rfl, (HA.out.below.alloc HA.out.below.size _).trans (hb3.mono (HA.out.below.alloc HA.out.below.size _).size)⟩
      | true =>
        rw [hmay] at HMB
        obtain ⟨b0, b1, b2, b3, b4, b5, b6, b7, b8⟩ := HE.out _ c HA1.out
        cases hfol : c.rd.follows e with
        | false =>
          have hno : readH h = none := by
            have := Hgo.out
            rwa [show c.rd.ok e = false from by simp [Rd.ok, hfol], if_neg (by simp)] at this
          rw [hfol] at HMF
          have HNo := Lib.hid hno; clear hno hmay hfol
          obtain ⟨ek, etm, eco, ebl, etr, ela, ead, eva, ecd⟩ := e
          unfold Ev.val at HMB HMF
          simp only [Ev.cells] at HA1 HMF b0 b1 b2 b3 b4 b5 b6 b7 b8 HE
          go_wp2_with (first | (refine wpList_load_mid rfl 61 (.tmp 18) rfl q (o + k * 9) rfl [.int .i64 ek, .int .i64 etm, .int .i64 eco, .int .i64 ebl, .int .i64 etr, .int .i64 ela, .int .i64 ead, .int .u64 eva, .int .i64 ecd] _ ?_ Try.underlying61 rfl Try.sizeEv ?_; exact Hrr.out) | (go_at_call 40; refine (HMB.out _).mono ?_; rintro z w3 ⟨rfl, hb3⟩; have hA3 := HA1.out.idle hb3; obtain ⟨b0', b1', b2', b3', b4', b5', b6', b7', b8'⟩ := HE.out _ c hA3; have HA3 := Lib.hid hA3; have HB3 := Lib.hid hb3; clear hA3 hb3 b0 b1 b2 b3 b4 b5 b6 b7 b8) | (go_at_call 41; refine (HMF.out _ HA3.out).mono ?_; rintro z w4 ⟨rfl, hb4⟩; have HB4 := Lib.hid hb4; clear hb4))
          go_ret2
          have hA4 := HA3.out.idle HB4.out
          exact .inl ⟨HNo.out, rfl, hA4.below⟩
        | true =>
          have hgo2 := Hgo.out
          have hok : c.rd.ok e = true := by simp [Rd.ok, hfol, hmay]
          rw [if_pos hok] at hgo2
          rw [hfol] at HMF
          have HGo := Lib.hid hgo2; clear hgo2
          have hri2 := HI.out.step Hfe.out hok (k : Nat)
          have HRI := Lib.hid hri2; clear hri2
          have hen : (plainK e.k = false → e.k ≠ 1 → ∃ j : Nat, c.o e.co = some (j : Int) ∧ j < c.l.length) := fun h1 h2 => by
            obtain ⟨v, hv⟩ := Option.isSome_iff_exists.1 (Rd.ok_open hok h1 h2)
            obtain ⟨j, rfl, hj⟩ := HI.out.o _ _ hv
            exact ⟨j, hv, by simpa [SC.rd] using hj⟩
          have hln : c.l.length < 1000 := by have := HI.out.ksn; simp only [SC.rd, List.length_map] at this; omega
          have hlens : ∀ x ∈ c.l, x.k.ld.length < 1000 ∧ x.k.st.length < 1000 := fun x hx => by
            have := HI.out.ks x.k (by simp only [SC.rd]; exact List.mem_map_of_mem hx)
            have h1 := this.ldn
            have h2 := this.stn
            omega
          have hpw : (Lit.int .i64 (c.rd.place e)).wf = true := by
            have h1 := HRI.out.pls (c.rd.place e) (by simp [Rd.step])
            have h2 := HRI.out.ksn
            rcases h1 with h1 | ⟨j, h1, h3⟩
            · rw [h1]; rfl
            · rw [h1]; exact WalkArith.wf_i64 (by omega)
          have HPW := Lib.hid hpw; clear hpw
          have HAD : Hid (∀ V, Ap w V { c with ex := updN c.ex 1 (some (cellsP wr.heap.size 61 e.cells)) }.pf → Calls Try.prog 42 #[.pointer (some ⟨w.heap.size, 0, none⟩), .map (some (w.heap.size + 1)), .int .i64 (k : Nat), e.val] V fun z w' => z = .returned (.int .i64 (c.rd.place e)) ∧ AddO w { c with ex := updN c.ex 1 (some (cellsP wr.heap.size 61 e.cells)) } (c.rd.ksAdd (k : Nat) e) w') := Lib.hid (fun V hV => by
            have := add_any hV (by rw [HX.out]; simp [updN]) (k : Nat) e Hfe.out hln hlens hen
            rw [← HO.out, ← HP.out]
            exact this)
          clear hmay hfol hen hlens
          obtain ⟨i0, hi, hz0, hz1, hz2⟩ := info_parts Try.infoInt
          have HI0 := Lib.hid hi; clear hi
          have HZ0 := Lib.hid hz0; clear hz0
          have HZ1 := Lib.hid hz1; clear hz1
          have HZ2 := Lib.hid hz2; clear hz2
          have hpl : c.pl.length = k := HI.out.pln
          have HPL := Lib.hid hpl; clear hpl
          obtain ⟨ad, cp, hvp⟩ : ∃ ad cp, c.vp = .slice ad k cp := by
            rcases owns_form (SC.plRow HA.out HPL.out rfl) with ⟨h1, h2, _⟩ | ⟨g, cap, h1, _⟩
            · exact ⟨none, 0, by rw [h1, h2]⟩
            · exact ⟨_, _, h1⟩
          have HVP := Lib.hid hvp; clear hvp
          have HPS : Hid (∀ V (c6 : SC), Ap w V c6.pf → c6.bo = w.heap.size + 1 → c6.n < 100000 → Calls Try.prog 30 #[.map (some (w.heap.size + 1)), e.val, .int .i64 (c.rd.place e)] V fun z w' => z = .returned (.tuple #[]) ∧ Ap w w' { c6 with n := c6.n + 1, o := passO c6.o e (c.rd.place e) }.pf) := Lib.hid (fun V c6 hV hb hn => by
            rw [← hb]; exact pass_any hV e Hfe.out _ HPW.out hn)
          obtain ⟨pv, hpv⟩ : ∃ pv, c.rd.place e = pv := ⟨_, rfl⟩
          rw [hpv] at HAD HPW HPS
          have HPV := Lib.hid hpv; clear hpv
          have HOK := Lib.hid hok; clear hok
          obtain ⟨ek, etm, eco, ebl, etr, ela, ead, eva, ecd⟩ := e
          unfold Ev.val at HMB HMF HAD HPS
          simp only [Ev.cells] at HA1 HMF b0 b1 b2 b3 b4 b5 b6 b7 b8 HE HAD HPS
          go_wp2_with (first
            | (refine wpList_load_mid rfl 61 (.tmp 18) rfl q (o + k * 9) rfl [.int .i64 ek, .int .i64 etm, .int .i64 eco, .int .i64 ebl, .int .i64 etr, .int .i64 ela, .int .i64 ead, .int .u64 eva, .int .i64 ecd] _ ?_ Try.underlying61 rfl Try.sizeEv ?_; exact Hrr.out)
            | (go_at_call 40; refine (HMB.out _).mono ?_; rintro z w3 ⟨rfl, hb3⟩; have hA3 := HA1.out.idle hb3; obtain ⟨b0', b1', b2', b3', b4', b5', b6', b7', b8'⟩ := HE.out _ c hA3; have HA3 := Lib.hid hA3; clear hA3 hb3 b0 b1 b2 b3 b4 b5 b6 b7 b8)
            | (go_at_call 41; refine (HMF.out _ HA3.out).mono ?_; rintro z w4 ⟨rfl, hb4⟩; have hA4 := HA3.out.idle hb4; obtain ⟨b0, b1, b2, b3, b4, b5, b6, b7, b8⟩ := HE.out _ c hA4; have HA4 := Lib.hid hA4; clear hA4 hb4 b0' b1' b2' b3' b4' b5' b6' b7' b8')
            | (go_at_call 42; refine (HAD.out _ HA4.out).mono ?_; rintro z w5 ⟨rfl, l5, va5, hl5, hA5⟩; have s2 := (SC.sto hA5).cell (i := 2) rfl; simp only at s2; rw [HP.out, HVP.out] at s2; have HA5 := Lib.hid hA5; clear hA5 b0 b1 b2 b3 b4 b5 b6 b7 b8)
            | (at_builtin; refine wpList_append_own_at _ rfl _ _ 73 rfl 0 3 i0 _ 1 8 Try.underlying73 HI0.out HZ0.out HZ1.out HZ2.out rfl (by decide) (.slice ad k cp) k (c.pl.map (.int .i64)) rfl (World.ownsRow.alloc (SC.plRow HA5.out HPL.out HVP.out) _) ⟨w5.heap.size, 0, none⟩ 1 1 [.int .i64 pv] rfl rfl (World.news_of_block (t := 3) (fr := (0, 0)) (new_block w5 _)) (by simp [Value.oneCell']) (by unfold maxLen; omega) (by omega) (by omega) ?_; intro v6 w6 hown6 hgrow6 hnil6 hat6; obtain ⟨hA6, k6, f6⟩ := SC.placedAt (P := w.heap.size) HA5.out HP.out ((Below.refl _ w5).alloc (Nat.le_refl _) _) HPL.out HVP.out hown6 hgrow6 hat6; obtain ⟨g6, cap6, rfl, -, -⟩ := hown6.form (by omega); obtain ⟨b0, b1, b2, b3, b4, b5, b6, b7, b8⟩ := HE.out _ { c with l := l5, va := va5, vp := .slice (some ⟨g6, 0, none⟩) (k + 1) cap6, pl := c.pl ++ [pv] } hA6; have HA6 := Lib.hid hA6; clear hA6 hown6 hgrow6 hnil6 hat6 s2)
            | (go_at_call 30; refine (HPS.out _ _ HA6.out HO.out (by simp only [HN.out]; omega)).mono ?_; rintro z w7 ⟨rfl, hA7⟩; have HA7 := Lib.hid hA7; clear hA7))
          clear b0 b1 b2 b3 b4 b5 b6 b7 b8
          go_roundw
          case rel =>
            have hx1 : c.ex 1 = none := by rw [HX.out]
            have hA8 := SC.unbox (c := { c with l := l5, va := va5, vp := .slice (some ⟨g6, 0, none⟩) (k + 1) cap6, pl := c.pl ++ [pv], n := c.n + 1, o := passO c.o ⟨ek, etm, eco, ebl, etr, ela, ead, eva, ecd⟩ pv }) 1 HA7.out hx1
            have hrd : SC.rd { c with l := l5, va := va5, vp := .slice (some ⟨g6, 0, none⟩) (k + 1) cap6, pl := c.pl ++ [pv], n := c.n + 1, o := passO c.o ⟨ek, etm, eco, ebl, etr, ela, ead, eva, ecd⟩ pv } = c.rd.step (k : Nat) ⟨ek, etm, eco, ebl, etr, ela, ead, eva, ecd⟩ := by
              simp only [SC.rd, Rd.step, hl5]
              rw [← HPV.out]
              rfl
            refine ⟨k + 1, _, by omega, by go_num, hA8, HP.out, HV.out, HO.out, HX.out, by simp only [HN.out], by rw [hrd]; exact HRI.out, by rw [hrd]; exact HGo.out⟩
          case measure => simp [intOf]; omega
    · obtain rfl : k = h.length := by omega
      have hfin := HG.out
      rw [List.drop_length, Rd.go] at hfin
      have HF := Lib.hid hfin; clear hfin
      have hps := HP.out
      go_wp2
      go_ret2
      exact .inr ⟨c, HF.out, by rw [HP.out]; rfl, HV.out, HI.out, HA.out⟩
end

end Go.Proofs.Ytgjbhcnadenojaa
