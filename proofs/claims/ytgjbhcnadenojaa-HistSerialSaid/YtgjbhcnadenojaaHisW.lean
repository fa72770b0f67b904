/- hist: what the loops over moments need. Conditions: those stated in each theorem. -/
import Derived.Test.YtgjbhcnadenojaaHisV
namespace Go.Proofs.Ytgjbhcnadenojaa
open Go.RowKit Go.BigFrame Go.Maps Go.Shelf

theorem results_ccc {fn : Func} {a b c : Tmp} {ta tb tc : TypeId} (h : fn.results = #[.cell a ta, .cell b tb, .cell c tc]) {tmps : Array Value} {P : Program} {w : World} {aa ab ac : Addr} {va vb vc : Value}
    (ha : tmps.getD a undef = .pointer (some aa)) (hb : tmps.getD b undef = .pointer (some ab)) (hc : tmps.getD c undef = .pointer (some ac)) (la : (loadVar ta aa).run P w = .ok va w) (lb : (loadVar tb ab).run P w = .ok vb w) (lc : (loadVar tc ac).run P w = .ok vc w) :
    (results fn tmps).run P w = .ok (.tuple #[va, vb, vc]) w := by
  unfold results
  rw [h]
  rw [Array.getD_eq_getD_getElem?] at ha hb hc
  simp [ha, hb, hc, asAddr, la, lb, lc, Result.andThen]

theorem go_may : ∀ (h : List Ev) (s s' : Rd) (i : Nat), s.go i h = some s' → ∀ e ∈ h, e.may = true
  | [], _, _, _, _, _, he => by cases he
  | x :: r, s, s', i, hs, e, he => by
    rw [Rd.go] at hs
    split at hs
    · rename_i hk
      rcases List.mem_cons.1 he with rfl | he
      · unfold Rd.ok at hk; simp at hk; exact hk.1
      · exact go_may r _ _ _ hs e he
    · cases hs
section
variable {c : SC} {h : List Ev} {m : Wd} {k : Nat}
theorem moments_at (hk : k < h.length) (s : Rd) : (moments h s)[k]? = some (moAt h s k) := by
  unfold moments; rw [List.getElem?_map, List.getElem?_range hk]; rfl
theorem moments_len (s : Rd) : (moments h s).length = h.length := by unfold moments; simp
theorem judge_at (hk : k < h.length) (s : Rd) : judgeFrom m k ((moments h s).drop k) = if m.explains (moAt h s k) then judgeFrom (m.pass (moAt h s k)) (k + 1) ((moments h s).drop (k + 1)) else some k := by
  obtain ⟨hl, he⟩ := List.getElem?_eq_some_iff.1 (moments_at hk s)
  rw [List.drop_eq_getElem_cons hl, judgeFrom, he]
theorem judge_end (s : Rd) : judgeFrom m h.length ((moments h s).drop h.length) = none := by
  rw [List.drop_eq_nil_of_le (by rw [moments_len]; exact Nat.le_refl _)]; rfl
theorem final_at (hk : k < h.length) (s : Rd) : finalM m ((moments h s).take (k + 1)) = (finalM m ((moments h s).take k)).pass (moAt h s k) := by
  unfold finalM
  rw [List.take_add_one, List.foldl_append, moments_at hk s]
  rfl
theorem hp_is {lo mid B : Nat} {w : World} (hs : StoR lo mid B w c h) (hk : k < h.length) : HpIs c (c.hp (c.pl.getD k 0) k) (moAt h c.rd k).hp := by
  have hp : c.pl[k]? = some (c.pl.getD k 0) := by
    have := hs.ri.pln
    simp only [SC.rd] at this
    rw [List.getD_eq_getElem?_getD, List.getElem?_eq_getElem (by omega)]; rfl
  have hi := hs.ri
  unfold SC.hp moAt moOf
  simp only
  show HpIs c (if happens c.rd.ks (c.pl.getD k 0) k = true then _ else _) (if happens c.rd.ks (c.pl.getD k 0) k = true then some (c.rd.ks.getD (c.pl.getD k 0).toNat Kn.zero) else none)
  generalize c.pl.getD k 0 = pv at *
  cases hh : happens c.rd.ks pv k with
  | false => exact .inl ⟨rfl, rfl⟩
  | true =>
    have hne : pv ≠ -1 := fun e => by rw [e] at hh; simp [happens] at hh
    obtain ⟨j, rfl, hj⟩ := (hi.pls pv (List.mem_of_getElem? hp)).resolve_left hne
    obtain ⟨x, hx⟩ : ∃ x, c.l[j]? = some x := ⟨_, List.getElem?_eq_getElem (by simpa [SC.rd] using hj)⟩
    cases hg : c.va.ownBlock with
    | none =>
      obtain ⟨g, cap, e, _⟩ := hs.att.1.form (by have := (List.getElem?_eq_some_iff.1 hx).1; omega)
      rw [e] at hg; cases hg
    | some g => exact .inr ⟨j, x, g, hx, hg, by simp, by rw [Int.toNat_natCast]; exact congrArg some (c.rd_get hx)⟩
theorem mo_val (hk : k < h.length) : Value.agg (moCells c h k).toArray = moVal (moAt h c.rd k).e (moAt h c.rd k).pl (c.hp (c.pl.getD k 0) k) := rfl
end

end Go.Proofs.Ytgjbhcnadenojaa
