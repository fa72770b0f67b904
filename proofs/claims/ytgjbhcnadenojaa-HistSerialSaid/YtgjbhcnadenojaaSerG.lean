/- HistSerial, plainly: what Judge and Final say of the histories. No conditions but those stated. -/
import Derived.Test.YtgjbhcnadenojaaSerD
import Derived.Test.YtgjbhcnadenojaaHisY
namespace Go.Proofs.Ytgjbhcnadenojaa

theorem wr_first (first : List Int) : WR ⟨first, Mp.none⟩ first := fun a ha => by simp [Wd.word, Mp.none, ha]
theorem words_same {m : Wd} {words : List Int} (h : WR m words) : wordsP m words.length = words := by
  apply List.ext_getElem?
  intro k
  unfold wordsP
  rw [List.getElem?_map]
  by_cases hk : k < words.length
  · rw [List.getElem?_range hk, List.getElem?_eq_getElem hk, Option.map_some, h k hk, List.getD_eq_getElem?_getD, List.getElem?_eq_getElem hk]; rfl
  · rw [List.getElem?_eq_none (by simpa using hk), List.getElem?_eq_none (by simpa using hk)]; rfl
theorem ser_judge {bs : List Bk} {first : List Int} (h : ∀ b ∈ bs, b.Ok first.length ∧ b.Fit) (hu : UW first) (hN : first.length ≤ 60) :
    judgeP (serH [] first bs) first = (0, true, 0) ∧ finalP (serH [] first bs) first first.length = (serW first bs, 0) ∧ ∀ e ∈ serH [] first bs, e.fit := by
  obtain ⟨s, hs, hj, hf⟩ := ser_ok bs [] first ⟨first, Mp.none⟩ h hu (by omega) (wr_first first)
  have hw := words_same hf
  rw [serW_len] at hw
  refine ⟨?_, ?_, hs.fit⟩
  · unfold judgeP; rw [hs.read]; simp only; rw [hj]
  · unfold finalP; rw [hs.read]; simp only
    rw [if_neg (by omega), if_neg (by omega), show ((first.length : Nat) : Int).toNat = first.length from by omega, hw]
theorem ser_judge_bad {bs : List Bk} {first : List Int} (h : ∀ b ∈ bs, b.Ok first.length ∧ b.Fit) (hu : UW first) (hN : first.length ≤ 60) {i : Nat} {e : Ev} {v : Int} (hi : (serH [] first bs)[i]? = some e) (hk : e.k = 2) (hno : NoSt (serH [] first bs) i e.ad) (hv : v ≠ e.va) (hvf : (Lit.int .u64 v).wf = true) :
    ∃ j : Int, judgeP ((serH [] first bs).set i { e with va := v }) first = (j, false, 0) ∧ ∀ x ∈ (serH [] first bs).set i { e with va := v }, x.fit := by
  obtain ⟨s, hs, j, hj⟩ := ser_bad bs [] first ⟨first, Mp.none⟩ i e v h hu (by omega) (wr_first first) hi hk hno hv hvf
  refine ⟨(j : Nat), ?_, hs.fit⟩
  unfold judgeP; rw [hs.read]; simp only; rw [hj]
/-- The next value: another one, of 64 bits. -/
theorem next_va {v : Int} (h : (Lit.int .u64 v).wf = true) : IntKind.u64.wrap (v + 1) ≠ v ∧ (Lit.int .u64 (IntKind.u64.wrap (v + 1))).wf = true := by
  have h2 : 0 ≤ v ∧ v ≤ 18446744073709551615 := by
    simp [Lit.wf, IntKind.min, IntKind.max, IntKind.signed, IntKind.bits] at h; omega
  have h3 : IntKind.u64.wrap (v + 1) = (v + 1) % 18446744073709551616 := by simp [IntKind.wrap, IntKind.signed, IntKind.bits]
  rw [h3]
  refine ⟨by omega, ?_⟩
  simp [Lit.wf, IntKind.min, IntKind.max, IntKind.signed, IntKind.bits]; omega
/-- Backwards from the load: what was seen is no store of the block. -/
def Back (h : List Ev) (i : Nat) (a : Int) (k : Nat) : Prop := k ≤ i ∧ ∀ (j : Nat) (f : Ev), k ≤ j → j < i → h[j]? = some f → f.k ≠ 1 ∧ ¬ (f.k = 3 ∧ f.ad = a)
theorem Back.start (h : List Ev) (i : Nat) (a : Int) : Back h i a i := ⟨Nat.le_refl _, fun j _ h1 h2 => by omega⟩
theorem Back.step {h : List Ev} {i : Nat} {a : Int} {k : Nat} (hb : Back h i a (k + 1)) {f : Ev} (hf : h[k]? = some f) (h1 : f.k ≠ 1) (h2 : ¬ (f.k = 3 ∧ f.ad = a)) : Back h i a k := by
  refine ⟨by have := hb.1; omega, fun j g h3 h4 hg => ?_⟩
  by_cases e : j = k
  · subst e; rw [hf] at hg; cases hg; exact ⟨h1, h2⟩
  · exact hb.2 j g (by omega) h4 hg
theorem Back.zero {h : List Ev} {i : Nat} {a : Int} (hb : Back h i a 0) : NoSt h i a := fun j f hj hf _ => (hb.2 j f (Nat.zero_le _) hj hf).2
theorem Back.begins {h : List Ev} {i : Nat} {a : Int} {k : Nat} (hb : Back h i a (k + 1)) {f : Ev} (hf : h[k]? = some f) (h1 : f.k = 1) : NoSt h i a := fun j g hj hg hn => by
  by_cases e : k < j
  · exact (hb.2 j g (by omega) hj hg).2
  · exact absurd h1 (hn k f (by omega) (by have := hb.1; omega) hf)

end Go.Proofs.Ytgjbhcnadenojaa
