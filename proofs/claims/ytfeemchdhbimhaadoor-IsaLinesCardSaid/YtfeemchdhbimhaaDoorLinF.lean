/- The document's words. Conditions: those stated in each theorem. -/
import Derived.Test.YtfeemchdhbimhaaDoorLinE
import Derived.Maps.AppendAt
namespace Go.Proofs.YtfeemchdhbimhaaDoor
open Go.RowKit Go.BigFrame

theorem infoS_parts : ∃ i, Tryd.prog.info? 9 = some i ∧ i.zero = some (.string ⟨#[]⟩) ∧ i.size = 1 ∧ i.bytes = 16 := Go.info_parts (P := Tryd.prog) (e := 9) (z := .string ⟨#[]⟩) (size := 1) (bytes := 16) (by kernel_rfl)
theorem slice_one {l : List UInt8} {k : Nat} {b : UInt8} (h : l[k]? = some b) (V : World) : (Instr.slice 9 (.string ⟨l.toArray⟩) (some (.int .i64 (k : Int))) (some (.int .i64 ((k : Int) + 1))) none).run Tryd.prog V = .ok (.string ⟨[b].toArray⟩) V := by
  obtain ⟨hk, rfl⟩ := List.getElem?_eq_some_iff.1 h
  have hs : (ByteArray.mk l.toArray).size = l.length := by simp [ByteArray.size]
  rw [run_slice_string V _ _ _ _ _ _ Tryd.underlying9 (by omega) (by omega) (by rw [hs]; omega)]
  congr 2
  apply ByteArray.ext
  rw [ByteArray.data_extract]
  apply Array.ext'
  rw [show ((k : Int) + 1).toNat = k + 1 from by omega, show ((k : Int)).toNat = k from by omega]
  simp only [List.extract_toArray, List.extract_eq_drop_take']
  rw [List.take_add_one, List.drop_append_of_le_length (by rw [List.length_take]; omega), List.drop_take_self]
  simp [hk]
def RowS (w : World) (lo : Nat) (v : Value) (l : List (List UInt8)) : Prop := w.ownsRow lo 9 1 v l.length (l.map strV)

set_option maxRecDepth 100000 in
set_option maxHeartbeats 4000000 in
theorem words_any (s : List UInt8) (hs : s.length ≤ 1000) (w : World) : Calls Tryd.prog 36 #[.string ⟨s.toArray⟩] w fun e w' => ∃ v, e = .returned v ∧ RowS w' w.heap.size v (wordsR [] s) ∧ Below w.heap.size w w' := by
  have hsz : ((⟨s.toArray⟩ : ByteArray).size : Int) = s.length := by simp [ByteArray.size]
  obtain ⟨i0, hi0, hz0, hz1, hz2⟩ := infoS_parts
  have Hi := Lib.hid hi0; clear hi0
  have Hz0 := Lib.hid hz0; clear hz0
  have Hz1 := Lib.hid hz1; clear hz1
  have Hz2 := Lib.hid hz2; clear hz2
  go_enter Tryd.func36, Tryd.ntmps36
  go_wp2_with fail
  go_loopw [3, 4, 5] (fun v wv i wr => ∃ (k : Nat) (dn : List (List UInt8)) (wl : List UInt8), k ≤ s.length ∧ i = .int .i64 k ∧ wv = .string ⟨wl.toArray⟩ ∧ wl.length ≤ k ∧ dn.length ≤ k ∧ wordsR [] s = dn ++ wordsR wl (s.drop k) ∧ RowS wr w.heap.size v dn ∧ Below w.heap.size w wr) (fun _ _ i _ => s.length - (intOf i).toNat)
  case atStart => exact ⟨0, [], [], by omega, rfl, rfl, by simp, by simp, rfl, World.ownsRow_nil _ _ _ _, Below.refl _ _⟩
  case round =>
    obtain ⟨k, dn, wl, hk, rfl, rfl, hwl, hdn, heq, hrow, hb⟩ := hrel
    have HE := Lib.hid heq; clear heq
    have HR := Lib.hid hrow; clear hrow
    have HB := Lib.hid hb; clear hb
    by_cases hlt : k < s.length
    · obtain ⟨b, hb⟩ : ∃ b, s[k]? = some b := ⟨s[k], List.getElem?_eq_getElem hlt⟩
      have hsl := slice_one hb
      have hix0 := index_str hb
      have hdrop : s.drop k = b :: s.drop (k + 1) := by
        obtain ⟨h1, rfl⟩ := List.getElem?_eq_some_iff.1 hb
        exact List.drop_eq_getElem_cons h1
      have heq := HE.out
      rw [hdrop, wordsR] at heq
      obtain ⟨v, hv⟩ : ∃ v, (b.toNat : Int) = v := ⟨_, rfl⟩
      have hvb : (v == 32) = (b == 32) := by
        rw [← hv]
        by_cases e : b = 32
        · subst e; rfl
        · have h45 : b.toNat ≠ 32 := fun h => e (UInt8.toNat_inj.1 h)
          have e2 : (b == 32) = false := by simpa using e
          rw [e2, beq_eq_false_iff_ne]
          omega
      have hix : ∀ V : World, (Instr.index 9 (.string ⟨s.toArray⟩) (.int .i64 (k : Int))).run Tryd.prog V = .ok (.int .u8 v) V := fun V => by rw [← hv]; exact hix0 V
      have hkk : IntKind.i64.wrap ((k : Int) + 1) = (k : Int) + 1 := by rw [IntKind.wrap_i64]; omega
      clear hix0 hdrop hv hb
      by_cases h32 : b = 32
      · rw [if_pos h32] at heq
        have e1 : (v == 32) = true := by rw [hvb, h32]; rfl
        have HE2 := Lib.hid heq
        clear heq hvb h32 hsl HE
        have hbs := HB.out.size
        go_wp2_with (at_builtin; refine wpList_append_own_at _ rfl (.tmp 16) (.tmp 18) 39 rfl w.heap.size 9 i0 _ 1 16 Tryd.underlying39 Hi.out Hz0.out Hz1.out Hz2.out rfl (by decide) u3 dn.length (dn.map strV) rfl (World.ownsRow.alloc HR.out _) ⟨wr.heap.size, 0, none⟩ 1 1 [.string ⟨wl.toArray⟩] rfl rfl (World.news_of_block (cs := #[.string ⟨wl.toArray⟩]) (t := 9) (fr := (0, 0)) (new_block wr _)) (by simp [Value.oneCell']) (by unfold maxLen; omega) (by omega) (by simp; omega) ?_; intro v5 w5 hown5 hgrow5 _ hat5; have HO5 := Lib.hid hown5; have HB5 := Lib.hid ((HB.out.alloc hbs _).grown hgrow5 (by simp; omega) (fun q e => (owns_lt HR.out e).1)); clear hown5 hgrow5 hat5)
        go_roundw
        case rel => exact ⟨k + 1, dn ++ [wl], [], by omega, by go_num, rfl, by simp, by simp; omega, by rw [HE2.out]; simp, by
          have h := HO5.out
          unfold RowS
          rw [List.length_append, List.map_append]; exact h, HB5.out⟩
        case measure => simp [intOf]; omega
      · rw [if_neg h32] at heq
        have e1 : (v == 32) = false := by rw [hvb]; simpa using h32
        have HE2 := Lib.hid heq
        clear heq hvb h32 HE
        have hcat : ∀ V : World, (Op.stringOp BinOp.add ⟨wl.toArray⟩ ⟨[b].toArray⟩).run Tryd.prog V = .ok (.string ⟨(wl ++ [b]).toArray⟩) V := fun V => run_string_add_lists V wl [b] (by omega) (by simp)
        obtain ⟨wn, hwn⟩ : ∃ l, wl ++ [b] = l := ⟨_, rfl⟩
        rw [hwn] at hcat HE2
        have hwnl : wn.length ≤ k + 1 := by rw [← hwn]; simp; omega
        obtain ⟨sb, hsb⟩ : ∃ x : ByteArray, (⟨[b].toArray⟩ : ByteArray) = x := ⟨_, rfl⟩
        rw [hsb] at hsl hcat
        clear hwn hsb
        go_wp2_with fail
        go_roundw
        case rel => exact ⟨k + 1, dn, wn, by omega, by go_num, rfl, hwnl, by omega, HE2.out, HR.out, HB.out⟩
        case measure => simp [intOf]; omega
    · obtain rfl : k = s.length := by omega
      have heq := HE.out
      rw [List.drop_length, wordsR] at heq
      have HE2 := Lib.hid heq
      clear heq HE
      have hbs := HB.out.size
      go_wp2_with (at_builtin; refine wpList_append_own_at _ rfl (.tmp 27) (.tmp 29) 39 rfl w.heap.size 9 i0 _ 1 16 Tryd.underlying39 Hi.out Hz0.out Hz1.out Hz2.out rfl (by decide) u3 dn.length (dn.map strV) rfl (World.ownsRow.alloc HR.out _) ⟨wr.heap.size, 0, none⟩ 1 1 [.string ⟨wl.toArray⟩] rfl rfl (World.news_of_block (cs := #[.string ⟨wl.toArray⟩]) (t := 9) (fr := (0, 0)) (new_block wr _)) (by simp [Value.oneCell']) (by unfold maxLen; omega) (by omega) (by simp; omega) ?_; intro v5 w5 hown5 hgrow5 _ hat5; have HO5 := Lib.hid hown5; have HB5 := Lib.hid ((HB.out.alloc hbs _).grown hgrow5 (by simp; omega) (fun q e => (owns_lt HR.out e).1)); clear hown5 hgrow5 hat5)
      go_ret
      exact ⟨_, rfl, by
        have h := HO5.out
        unfold RowS
        rw [HE2.out, List.length_append, List.map_append]; exact h, HB5.out⟩

end Go.Proofs.YtfeemchdhbimhaaDoor
