/- hist: memory: explains, pass. Conditions: those stated in each theorem. -/
import Derived.Test.YtgjbhcnadenojaaHisS
import Derived.Test.YtgjbhcnadenojaaHisT
namespace Go.Proofs.Ytgjbhcnadenojaa
open Go.RowKit Go.BigFrame Go.Maps

/-- A pointer to the attempt that happens, or none. -/
def HpIs (c : SC) (v : Value) (hp : Option Kn) : Prop := (v = .pointer none ∧ hp = none) ∨ ∃ j x g, c.l[j]? = some x ∧ c.va.ownBlock = some g ∧ v = .pointer (some ⟨g, j * 14, none⟩) ∧ hp = some x.k
def moVal (e : Ev) (pl : Int) (v : Value) : Value := .agg #[.int .i64 e.k, .int .i64 e.tm, .int .i64 e.co, .int .i64 e.bl, .int .i64 e.tr, .int .i64 e.la, .int .i64 e.ad, .int .u64 e.va, .int .i64 e.cd, .int .i64 pl, v]
theorem Try.ptr_known_nil (w : World) (x : Addr) : (binOp .eql 83 (.pointer (some x)) (.pointer none)).run Try.prog w = .ok (.bool false) w := by
  have h : ∀ d : Nat, (Op.equalIn (d + 1) 83 (.pointer (some x)) (.pointer none)).run Try.prog w = .ok false w := fun d => by
    simp [Op.equalIn, run_underlying Try.underlying83]
  simp only [binOp]
  simp [Op.equal, Op.maxDepth, h 9999]
theorem Try.ptr_known_none (w : World) : (binOp .eql 83 (.pointer none) (.pointer none)).run Try.prog w = .ok (.bool true) w := by
  have h : ∀ d : Nat, (Op.equalIn (d + 1) 83 (.pointer none) (.pointer none)).run Try.prog w = .ok true w := fun d => by
    simp [Op.equalIn, run_underlying Try.underlying83]
  simp only [binOp]
  simp [Op.equal, Op.maxDepth, h 9999]

section
variable {lo mid B : Nat} {w w' : World} {c : SC} {h : List Ev} {mp ml n : Nat} {fv : Value} {m : Wd}
theorem WmAt.put {n' : Nat} {f' : Mp} (hm : WmAt w mp ml n fv m) (h2 : MpAt w' 46 .u64 ml n' f') (hg : Tch (fun k => k = ml) w w') : WmAt w' mp ml n' fv { m with later := f' } := by
  obtain ⟨h1, h3, a, cap, h4, h5⟩ := hm
  refine ⟨hg.holds (fun e => h3.ne h1 e) h1, h2, a, cap, h4, ?_⟩
  rcases h5 with h5 | ⟨q, o, rfl, hq, hr⟩
  · exact .inl h5
  · by_cases he : m.first = []
    · exact .inl he
    · obtain ⟨v, l, hv⟩ := List.exists_cons_of_ne_nil he
      have hc := hr 0 v (by rw [hv]; rfl) 0 _ rfl
      have hqm : q ≠ ml := fun e => by
        subst e
        obtain ⟨es, ck, hk⟩ := h3.obj
        simp [World.cell?, hk] at hc
      exact rows_same (.inr ⟨q, o, rfl, hq, hr⟩) hg.size (fun q' c' e => by cases e; exact hg.block q hq hqm)

set_option maxRecDepth 100000 in
set_option maxHeartbeats 2000000 in
theorem explains_any (s : StoR lo mid B w c h) (hm : WmAt w mp ml n fv m) (e : Ev) (he : e.fit) (hmay : e.may = true) (pl : Int) {v : Value} {hp : Option Kn} (hv : HpIs c v hp) :
    Calls Try.prog 36 #[.pointer (some ⟨mp, 0, none⟩), moVal e pl v] w fun z w' => z = .returned (.bool (m.explains ⟨e, pl, hp⟩)) ∧ Below w.heap.size w w' := by
  have had : e.k = 7 → 0 ≤ e.ad := fun h => Ev.may_addr hmay (.inr (.inr (.inl h)))
  obtain ⟨ek, etm, eco, ebl, etr, ela, ead, eva, ecd⟩ := e
  unfold moVal
  have hb1 : Below w.heap.size w (w.alloc (.cells #[.int .i64 ek, .int .i64 etm, .int .i64 eco, .int .i64 ebl, .int .i64 etr, .int .i64 ela, .int .i64 ead, .int .u64 eva, .int .i64 ecd, .int .i64 pl, v] 85)) := (Below.refl _ w).alloc (Nat.le_refl _) _
  have hbox : Holds (w.alloc (.cells #[.int .i64 ek, .int .i64 etm, .int .i64 eco, .int .i64 ebl, .int .i64 etr, .int .i64 ela, .int .i64 ead, .int .u64 eva, .int .i64 ecd, .int .i64 pl, v] 85)) w.heap.size 85 [.int .i64 ek, .int .i64 etm, .int .i64 eco, .int .i64 ebl, .int .i64 etr, .int .i64 ela, .int .i64 ead, .int .u64 eva, .int .i64 ecd, .int .i64 pl, v] := Holds.new _ _ _
  have x0 := hbox.cell (i := 0) rfl
  have x6 := hbox.cell (i := 6) rfl
  have x7 := hbox.cell (i := 7) rfl
  have x10 := hbox.cell (i := 10) rfl
  have Hb1 := Lib.hid hb1; clear hb1
  have HM := Lib.hid hm; clear hm
  have HS := Lib.hid s; clear s
  clear hbox hmay
  by_cases h7 : ek = 7
  · subst h7
    have hw : m.explains ⟨⟨7, etm, eco, ebl, etr, ela, ead, eva, ecd⟩, pl, hp⟩ = (m.word ead == eva) := by simp [Wd.explains]
    rw [hw]
    have HW : Hid (∀ V, Below w.heap.size w V → Calls Try.prog 38 #[.pointer (some ⟨mp, 0, none⟩), .int .i64 ead] V fun z w' => z = .returned (.int .u64 (m.word ead)) ∧ V = w') := Lib.hid (fun V hV => word_any (HM.out.below hV) ead (had rfl) he.2.1)
    clear hw he had hv
    go_enter Try.func36, Try.ntmps36
    go_wp2_with fail
    generalize w.alloc (.cells #[.int .i64 7, .int .i64 etm, .int .i64 eco, .int .i64 ebl, .int .i64 etr, .int .i64 ela, .int .i64 ead, .int .u64 eva, .int .i64 ecd, .int .i64 pl, v] 85) = W1 at *
    go_quiet ((go_at_call 38; exact Calls.quiet_of_same ((HW.out _ (below_drewN Hb1.out _)).mono (fun _ _ h => ⟨h.1, h.2.symm⟩))))
    go_wp2
    go_ret
    exact ⟨rfl, below_drewN Hb1.out _⟩
  · have b7 : (ek == 7) = false := by simpa using h7
    rcases hv with ⟨rfl, rfl⟩ | ⟨j, x, g, hx, hg, rfl, rfl⟩
    · have hw : m.explains ⟨⟨ek, etm, eco, ebl, etr, ela, ead, eva, ecd⟩, pl, none⟩ = true := by simp [Wd.explains, h7]
      rw [hw]
      have hq := Try.ptr_known_none
      clear hw he had h7
      go_enter Try.func36, Try.ntmps36
      go_wp2
      go_ret
      exact ⟨rfl, Hb1.out⟩
    · have hw : m.explains ⟨⟨ek, etm, eco, ebl, etr, ela, ead, eva, ecd⟩, pl, some x.k⟩ = (!x.k.odd && m.has x.k.ld) := by simp [Wd.explains, h7]
      rw [hw]
      have hq := Try.ptr_known_nil
      have hok := HS.out.ri.ks x.k (by simp only [SC.rd]; exact List.mem_map_of_mem (List.mem_of_getElem? hx))
      have hlen := HS.out.len
      have HH : Hid (∀ V, Below w.heap.size w V → Calls Try.prog 48 #[.pointer (some ⟨mp, 0, none⟩), x.lv] V fun z w' => z = .returned (.bool (m.has x.k.ld)) ∧ Below V.heap.size V w') := Lib.hid (fun V hV => mhas_any (HM.out.below hV) (HS.out.next hV |>.ldr hx).1 (by have := hok.ldn; omega) hok.ldf hok.lda)
      have hcs := (HS.out.next Hb1.out).cells hx hg
      have y7 := hcs.c 7 rfl
      have y13 := hcs.c 13 rfl
      clear hw he had h7 hok hcs
      obtain ⟨od, hod⟩ : ∃ od, x.k.odd = od := ⟨_, rfl⟩
      rw [hod] at y13
      rw [hod]
      clear hod
      cases od
      · go_enter Try.func36, Try.ntmps36
        go_wp2_with (go_at_call 48; refine (HH.out _ Hb1.out).mono ?_; rintro z w3 ⟨rfl, hb3⟩; have Hb3 := Lib.hid hb3; clear hb3)
        go_ret
        exact ⟨by simp, Hb1.out.trans (Hb3.out.mono Hb1.out.size)⟩
      · go_enter Try.func36, Try.ntmps36
        go_wp2
        go_ret
        exact ⟨by simp, Hb1.out⟩
end

end Go.Proofs.Ytgjbhcnadenojaa
