/- hist: the story's add, all events. Conditions: those stated in each theorem. -/
import Derived.Test.YtgjbhcnadenojaaHisK
namespace Go.Proofs.Ytgjbhcnadenojaa
open Go.RowKit Go.BigFrame Go.Maps

section
variable {w0 w : World} {c : SC} {i g : Nat} {x : KC}
theorem SC.getD_map (l : List KC) {j : Nat} {x : KC} (h : l[j]? = some x) : (l.map (·.k)).getD j Kn.zero = x.k := by simp [List.getD, h]
set_option maxRecDepth 100000 in
set_option maxHeartbeats 2000000 in
theorem add_any (h : Ap w0 w c.pf) (hex : c.ex 0 = none) (iv : Int) (e : Ev) (he : e.fit) (hl : c.l.length < 1000) (hlens : ∀ x ∈ c.l, x.k.ld.length < 1000 ∧ x.k.st.length < 1000) (ho : plainK e.k = false → e.k ≠ 1 → ∃ j : Nat, c.o e.co = some (j : Int) ∧ j < c.l.length) :
    Calls Try.prog 42 #[.pointer (some ⟨c.p, 0, none⟩), .map (some c.bo), .int .i64 iv, e.val] w fun z w' => z = .returned (.int .i64 (c.rd.place e)) ∧ AddO w0 c (c.rd.ksAdd iv e) w' := by
  have hW : Below w.heap.size w (w.alloc (.cells e.cells.toArray 61)) := (Below.refl _ w).alloc (Nat.le_refl _) _
  have hBx := Holds.new w 61 e.cells
  have hA := h.idle hW
  have HP : Hid (∀ V, Calls Try.prog 28 #[.int .i64 e.k] V fun z w' => z = .returned (.bool (plainK e.k)) ∧ V = w') := Lib.hid (fun V => plain_any e.k)
  obtain ⟨b0, b1, b2, b3, b4, b5, b6, b7, b8⟩ := EvBox.of hBx
  have s1 := (SC.sto hA).cell (i := 1) rfl
  have HA := Lib.hid hA; clear hA
  have HX := Lib.hid hex; clear hex
  have HLn := Lib.hid hlens; clear hlens
  have HH := Lib.hid h; clear h
  cases hp : plainK e.k with
  | true =>
    have hf : c.rd.place e = -1 := by simp [Rd.place, hp]
    have hk : c.rd.ksAdd iv e = c.l.map (·.k) := by simp [Rd.ksAdd, hp, SC.rd]
    rw [hf, hk]
    rw [hp] at HP
    clear hf hk hp ho hBx
    obtain ⟨ek, etm, eco, ebl, etr, ela, ead, eva, ecd⟩ := e
    simp only [Ev.cells] at b0 HP hW HA s1
    unfold Ev.val
    have HW := Lib.hid hW; clear hW
    go_enter Try.func42, Try.ntmps42
    go_wp2_with (go_at_call 28; refine (HP.out _).mono ?_; rintro z w' ⟨rfl, rfl⟩)
    go_ret
    exact ⟨rfl, c.l, c.va, rfl, HA.out⟩
  | false =>
    by_cases e1 : e.k = 1
    · have hf : c.rd.place e = (c.l.length : Nat) := by simp only [Rd.place, hp, Bool.false_eq_true, if_false, if_pos e1]; simp [SC.rd]
      have hk : c.rd.ksAdd iv e = c.l.map (·.k) ++ [Kn.begun iv e] := by simp only [Rd.ksAdd, hp, Bool.false_eq_true, if_false, if_pos e1]; simp [SC.rd]
      rw [hf, hk]
      exact add_begin HH.out iv e hl e1
    · obtain ⟨j, hj, hjl⟩ := ho hp e1
      obtain ⟨x, hx⟩ : ∃ x, c.l[j]? = some x := ⟨_, List.getElem?_eq_getElem hjl⟩
      have hf : c.rd.place e = (j : Int) := by simp [Rd.place, hp, e1, SC.rd, hj]
      have hk : c.rd.ksAdd iv e = (c.l.map (·.k)).set j (x.k.add iv e) := by
        have := SC.getD_map c.l hx
        simp only [Rd.ksAdd, hp, SC.rd, hj, Bool.false_eq_true, if_false, e1, Option.getD_some, Int.toNat_natCast]
        rw [this]
      rw [hf, hk]
      obtain ⟨g, cap, hva⟩ := SC.va_form HA.out hx
      have R1 := (SC.op HA.out).run Try.underlying79 Try.underlying3 Try.zeroI he.1
      rw [hj] at R1
      simp only [Option.getD_some] at R1
      have hK : ∀ V, Below (w.alloc (.cells e.cells.toArray 61)).heap.size (w.alloc (.cells e.cells.toArray 61)) V → Calls Try.prog 51 #[.pointer (some ⟨g, j * 14, none⟩), .int .i64 iv, e.val] V fun z w' => z = .returned (.tuple #[]) ∧ AddO w0 c ((c.l.map (·.k)).set j (x.k.add iv e)) w' := fun V hV => by
        refine (kadd_any (HA.out.idle hV) HX.out hx (by rw [hva]; rfl) iv e he (HLn.out x (List.mem_of_getElem? hx)).1 (HLn.out x (List.mem_of_getElem? hx)).2).mono ?_
        rintro z w' ⟨rfl, y, hy, hh⟩
        refine ⟨rfl, c.l.set j y, c.va, by rw [List.map_set, hy], hh⟩
      have HK := Lib.hid hK; clear hK
      rw [hva] at s1
      have hjl' : (0 : Int) ≤ (j : Int) ∧ (j : Int) < (c.l.length : Int) := by omega
      have e1' : (e.k == 1) = false := by simpa using e1
      rw [hp] at HP
      clear hf hk hp ho hBx hva hx hj e1
      obtain ⟨ek, etm, eco, ebl, etr, ela, ead, eva, ecd⟩ := e
      simp only [Ev.cells] at b0 b1 b2 b3 b4 b5 b6 b7 b8 HP hW HA s1 R1 HK
      simp only at e1'
      unfold Ev.val at HK ⊢
      have HW := Lib.hid hW; clear hW
      clear he
      go_enter Try.func42, Try.ntmps42
      go_wp2_with (go_at_call 28; refine (HP.out _).mono ?_; rintro z w' ⟨rfl, rfl⟩)
      generalize w.alloc (.cells #[.int .i64 ek, .int .i64 etm, .int .i64 eco, .int .i64 ebl, .int .i64 etr, .int .i64 ela, .int .i64 ead, .int .u64 eva, .int .i64 ecd] 61) = W0 at *
      go_still_tail 8, (by kernel_rfl)
      change wpList _ _ _ _ _ W0.drew
      go_wp2_with (go_at_call 51; refine (HK.out _ (below_drew1 (Below.refl _ _))).mono ?_; rintro z w' ⟨rfl, hb⟩; have Hb := Lib.hid hb; clear hb)
      go_ret
      exact ⟨rfl, Hb.out⟩
end

end Go.Proofs.Ytgjbhcnadenojaa
