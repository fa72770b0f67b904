/- The directory: Hear. Conditions: those stated in each theorem. -/
import Derived.Test.YtnhainjdaafmiaaDoorDirW
namespace Go.Proofs.YtnhainjdaafmiaaDoor
open Go.RowKit Go.BigFrame

/-- What Hear leaves. -/
def HPost (w : World) (lo p m b L : Nat) (wvs : List Value) (d : Dv) (out : List MsgV) (v : Value) (w' : World) : Prop :=
  ∃ wvs', DirAt w' lo p m b L wvs' d ∧ DOut w.heap.size w' v out ∧ Tch (DOwn b L wvs) w w' ∧ ∀ u ∈ wvs', ∀ g, u.ownBlock = some g → (∃ u ∈ wvs, u.ownBlock = some g) ∨ w.heap.size ≤ g

section
variable {w w' : World} {lo p m b L : Nat} {wvs : List Value} {d : Dv}
theorem HPost.idle (h : DirAt w lo p m b L wvs d) (hb : Below w.heap.size w w') : HPost w lo p m b L wvs d [] (.slice none 0 0) w' :=
  ⟨wvs, h.below hb, dout_none _ _, ⟨hb.os, hb.tape, hb.output, hb.size, fun k hk _ => hb.block k hk⟩, fun u hu _ hg => .inl ⟨u, hu, hg⟩⟩
theorem HPost.after {w1 : World} {v : Value} {out : List MsgV} {d' : Dv} (hb : Below w.heap.size w w1) (h : HPost w1 lo p m b L wvs d' out v w') : HPost w lo p m b L wvs d' out v w' := by
  obtain ⟨wvs', h1, h2, h3, h4⟩ := h
  have hT : Tch (DOwn b L wvs) w w1 := ⟨hb.os, hb.tape, hb.output, hb.size, fun k hk _ => hb.block k hk⟩
  exact ⟨wvs', h1, owns_mono h2 (fun g hg => Nat.le_trans hb.size (owns_lt h2 hg).1), hT.trans h3, fun u hu g hg => (h4 u hu g hg).imp_right (fun e => Nat.le_trans hb.size e)⟩

theorem dline_any (h : DirAt w lo p m b L wvs d) (k : Int) : Calls Tryd.prog 27 #[.pointer (some ⟨p, 0, none⟩), .int .i64 k] w fun e w' => e = .returned (.tuple #[if d.inLine k then .pointer (some ⟨L, k.toNat * 16, none⟩) else .pointer none, .int .i64 (if d.inLine k then 0 else 2)]) ∧ w = w' := by
  unfold Dv.inLine
  by_cases h0 : k < 0
  · rw [show (decide (0 ≤ k) && decide (k < d.n)) = false by simp; omega]
    exact dline_neg k p w h0
  · by_cases hk : k < d.n
    · obtain ⟨j, rfl⟩ := Int.eq_ofNat_of_zero_le (show 0 ≤ k by omega)
      rw [show (decide (0 ≤ (j : Int)) && decide ((j : Int) < d.n)) = true by simp; omega]
      exact dline_ok j p L d.n w h.c2 (by omega)
    · rw [show (decide (0 ≤ k) && decide (k < d.n)) = false by simp; omega]
      exact dline_big k p L d.n w h.c2 h0 hk

theorem MsgsAt.of_owns {lo : Nat} {v : Value} {ms : List MsgV} (h : w.ownsRow lo 45 11 v ms.length (ms.flatMap MsgV.cells)) : MsgsAt w v ms := by
  rcases owns_form h with ⟨rfl, h0, -⟩ | ⟨g, cap, rfl, hg⟩
  · exact .inl ⟨List.eq_nil_of_length_eq_zero h0, none, 0, rfl⟩
  · refine .inr ⟨g, cap, rfl, (owns_lt h hg).2, fun i m hm j u hu => ?_⟩
    have hj : j < 11 := (List.getElem?_eq_some_iff.1 hu).1
    exact (owns_cell h hg (by rw [flat_get MsgV.cells 11 MsgV.len ms i j m hm hj]; exact hu)).1

set_option maxRecDepth 100000 in
set_option maxHeartbeats 1000000 in
theorem hear_line (h : DirAt w lo p m b L wvs d) (x : MsgV) (hl : ¬ (0 ≤ x.line ∧ x.line < d.n)) :
    Calls Tryd.prog 10 #[.pointer (some ⟨p, 0, none⟩), .agg x.cells.toArray] w fun e w' => ∃ v, e = .returned (.tuple #[v, .int .i64 (d.hear x).2.2]) ∧ HPost w lo p m b L wvs (d.hear x).1 (d.hear x).2.1 v w' := by
  have e1 : d.hear x = (d, [], 2) := by unfold Dv.hear; rw [if_pos hl]
  rw [e1]
  have HB := Lib.hid (mbox_new w x)
  have b2 := HB.out.c2
  have hin : d.inLine x.line = false := by unfold Dv.inLine; simp; omega
  have HL := Lib.hid (show Calls Tryd.prog 27 #[.pointer (some ⟨p, 0, none⟩), .int .i64 x.line] (w.alloc (.cells x.cells.toArray 45)) fun e w' => e = .returned (.tuple #[.pointer none, .int .i64 2]) ∧ (w.alloc (.cells x.cells.toArray 45)) = w' from by
    have := dline_any (h.below HB.out.below) x.line
    rw [hin] at this; exact this)
  have Hf := Lib.hid (HPost.idle h HB.out.below)
  clear h hl e1 HB hin
  go_enter Tryd.func10, Tryd.ntmps10
  go_wp2_with fail
  refine HL.out.mono ?_
  rintro e w' ⟨rfl, rfl⟩
  go_wp2
  go_ret2
  exact ⟨_, rfl, Hf.out⟩

set_option maxRecDepth 100000 in
set_option maxHeartbeats 1000000 in
theorem hear_core (h : DirAt w lo p m b L wvs d) (x : MsgV) (hl : 0 ≤ x.line ∧ x.line < d.n) (hc : ¬ (0 ≤ x.core ∧ x.core < d.cores)) :
    Calls Tryd.prog 10 #[.pointer (some ⟨p, 0, none⟩), .agg x.cells.toArray] w fun e w' => ∃ v, e = .returned (.tuple #[v, .int .i64 (d.hear x).2.2]) ∧ HPost w lo p m b L wvs (d.hear x).1 (d.hear x).2.1 v w' := by
  have e1 : d.hear x = (d, [], 2) := by unfold Dv.hear; rw [if_neg (by simpa using hl), if_pos hc]
  rw [e1]
  have HB := Lib.hid (mbox_new w x)
  have b1 := HB.out.c1
  have b2 := HB.out.c2
  have h1 := h.below HB.out.below
  have k1 := h1.c1
  have hin : d.inLine x.line = true := by unfold Dv.inLine; simp; omega
  have HL := Lib.hid (show Calls Tryd.prog 27 #[.pointer (some ⟨p, 0, none⟩), .int .i64 x.line] (w.alloc (.cells x.cells.toArray 45)) fun e w' => e = .returned (.tuple #[.pointer (some ⟨L, x.line.toNat * 16, none⟩), .int .i64 0]) ∧ (w.alloc (.cells x.cells.toArray 45)) = w' from by
    have := dline_any h1 x.line
    rw [hin] at this; exact this)
  have HI := Lib.hid (fun q => HPost.idle h (below_drewN HB.out.below q))
  generalize x.line.toNat * 16 = o at *
  by_cases h0 : x.core < 0
  · have hd0 : decide (x.core < 0) = true := by simpa using h0
    clear h h1 hl hc e1 HB hin h0
    go_enter Tryd.func10, Tryd.ntmps10
    go_wp2_with fail
    refine HL.out.mono ?_
    rintro e w' ⟨rfl, rfl⟩
    go_wp2
    go_quiet (fail)
    go_wp2
    go_ret2
    exact ⟨_, rfl, HI.out _⟩
  · have hd0 : decide (x.core < 0) = false := by simpa using h0
    have hd1 : decide ((d.cores : Int) ≤ x.core) = true := by simp; omega
    clear h h1 hl hc e1 HB hin h0
    go_enter Tryd.func10, Tryd.ntmps10
    go_wp2_with fail
    refine HL.out.mono ?_
    rintro e w' ⟨rfl, rfl⟩
    go_wp2
    go_quiet (fail)
    go_wp2
    go_ret2
    exact ⟨_, rfl, HI.out _⟩

set_option maxRecDepth 100000 in
set_option maxHeartbeats 1000000 in
theorem hear_in (h : DirAt w lo p m b L wvs d) (x : MsgV) (hl : 0 ≤ x.line ∧ x.line < d.n) (hc : 0 ≤ x.core ∧ x.core < d.cores) :
    Calls Tryd.prog 10 #[.pointer (some ⟨p, 0, none⟩), .agg x.cells.toArray] w fun e w' => ∃ v, e = .returned (.tuple #[v, .int .i64 (d.hear x).2.2]) ∧ HPost w lo p m b L wvs (d.hear x).1 (d.hear x).2.1 v w' := by
  obtain ⟨i, hi⟩ : ∃ i : Nat, x.line = i := ⟨x.line.toNat, by omega⟩
  have hin : i < d.n := by omega
  have h4 := h.four
  have HB := Lib.hid (mbox_new w x)
  have b1 := HB.out.c1
  have b2 : (w.alloc (.cells x.cells.toArray 45)).cell? ⟨w.heap.size, 2, none⟩ = some (.int .i64 i) := by rw [HB.out.c2, hi]
  have h1 := h.below HB.out.below
  have k1 := h1.c1
  obtain ⟨v, gl, gv⟩ := h1.get hin
  have hwf := h1.wf i _ gl
  have hlen := hwf.len
  have HL := Lib.hid (show Calls Tryd.prog 27 #[.pointer (some ⟨p, 0, none⟩), .int .i64 i] (w.alloc (.cells x.cells.toArray 45)) fun e w' => e = .returned (.tuple #[.pointer (some ⟨L, i * 16, none⟩), .int .i64 0]) ∧ (w.alloc (.cells x.cells.toArray 45)) = w' from dline_ok i p L d.n _ h1.c2 hin)
  have HR := Lib.hid (fun q => show Calls Tryd.prog 28 #[.pointer (some ⟨L, i * 16, none⟩), .agg x.cells.toArray] ((w.alloc (.cells x.cells.toArray 45)).drewN q) fun e w' => e = .returned (.bool ((d.l i).refuses x)) ∧ Below (w.alloc (.cells x.cells.toArray 45)).heap.size (w.alloc (.cells x.cells.toArray 45)) w' from by
    have h2 := h1.below (below_drewN (Below.refl _ _) q)
    refine (drefuses_any L (i * 16) ((d.l i).kn v) x (d.l i).ms _ (h2.known gl gv) (MsgsAt.of_owns (h2.wait i _ v gl gv)) (by omega) hwf.asked hc.1 (by omega)).mono ?_
    rintro e w' ⟨rfl, hb⟩
    exact ⟨rfl, (below_drewN (Below.refl _ _) q).trans hb⟩)
  have hd0 : decide (x.core < 0) = false := by simp; omega
  have hd1 : decide ((d.cores : Int) ≤ x.core) = false := by simp; omega
  have HX := Lib.hid (fun (W : World) (hb : Below (w.alloc (.cells x.cells.toArray 45)).heap.size (w.alloc (.cells x.cells.toArray 45)) W) => show W.rangeAt w.heap.size 0 x.cells from fun j u hu => by rw [hb.cell (p := ⟨w.heap.size, 0 + j, none⟩) (by simp)]; exact HB.out.row j u hu)
  have e0 : d.hear x = if (d.l i).refuses x = true then (d, [], 30) else ({ d with ls := d.ls.set i ((d.l i).take (d.m i) x).1, mems := d.mems.set i ((d.l i).take (d.m i) x).2.1 }, ((d.l i).take (d.m i) x).2.2, 0) := by
    unfold Dv.hear; rw [if_neg (by simpa using hl), if_neg (by simpa using hc), hi, Int.toNat_natCast]
  by_cases hr : (d.l i).refuses x = true
  · rw [e0, if_pos hr]
    rw [hr] at HR
    have HI := Lib.hid (fun (W : World) (hb : Below (w.alloc (.cells x.cells.toArray 45)).heap.size (w.alloc (.cells x.cells.toArray 45)) W) => HPost.idle h (HB.out.below.trans (hb.mono (by simp))))
    clear h h1 hl hc e0 HB hin hi gl gv hwf hlen h4 hr
    go_enter Tryd.func10, Tryd.ntmps10
    go_wp2_with fail
    refine HL.out.mono ?_
    rintro e w' ⟨rfl, rfl⟩
    go_wp2
    go_quiet (fail)
    go_wp2_with (first | (refine wpList_load_mid rfl 45 (.tmp 3) rfl w.heap.size 0 rfl x.cells _ ?_ Tryd.underlying45 rfl Tryd.size52 ?_; exact HX.out _ (below_drewN (Below.refl _ _) _)) | fail)
    refine (HR.out _).mono ?_
    rintro e w2 ⟨rfl, hb⟩
    have Hf := Lib.hid (HI.out _ hb); clear hb
    go_wp2
    go_ret2
    exact ⟨_, rfl, Hf.out⟩
  · rw [e0, if_neg hr]
    have hr : (d.l i).refuses x = false := by simpa using hr
    rw [hr] at HR
    have HT := Lib.hid (fun (W : World) (hb : Below (w.alloc (.cells x.cells.toArray 45)).heap.size (w.alloc (.cells x.cells.toArray 45)) W) => show Calls Tryd.prog 29 #[.pointer (some ⟨p, 0, none⟩), .pointer (some ⟨L, i * 16, none⟩), .agg x.cells.toArray] W fun e w' => ∃ v, e = .returned v ∧ HPost w lo p m b L wvs { d with ls := d.ls.set i ((d.l i).take (d.m i) x).1, mems := d.mems.set i ((d.l i).take (d.m i) x).2.1 } ((d.l i).take (d.m i) x).2.2 v w' from by
      have h2 := h1.below hb
      refine (take_any (h2.dk gl gv) hwf h.lenM hin x hi hc.1 (by omega) hr).mono ?_
      rintro e w' ⟨ov, rfl, hp⟩
      have hw2 := take_wf hwf (d.m i) x hi hc.1 (by omega) hr
      exact ⟨ov, rfl, HPost.after (HB.out.below.trans (hb.mono (by simp))) (h2.put gl gv (by rw [List.length_set]; exact h.lenM) hw2 hp)⟩)
    clear h h1 hl hc e0 HB hin hi gl gv hwf hlen h4 hr
    go_enter Tryd.func10, Tryd.ntmps10
    go_wp2_with fail
    refine HL.out.mono ?_
    rintro e w' ⟨rfl, rfl⟩
    go_wp2
    go_quiet (fail)
    go_wp2_with (first | (refine wpList_load_mid rfl 45 (.tmp 3) rfl w.heap.size 0 rfl x.cells _ ?_ Tryd.underlying45 rfl Tryd.size52 ?_; exact HX.out _ (below_drewN (Below.refl _ _) _)) | fail)
    refine (HR.out _).mono ?_
    rintro e w2 ⟨rfl, hb⟩
    have HX2 := Lib.hid (HX.out w2 hb)
    have HT2 := Lib.hid (HT.out w2 hb); clear hb
    go_wp2_with (first | (refine wpList_load_mid rfl 45 (.tmp 3) rfl w.heap.size 0 rfl x.cells _ ?_ Tryd.underlying45 rfl Tryd.size52 ?_; exact HX2.out) | fail)
    refine HT2.out.mono ?_
    rintro e w3 ⟨ov, rfl, hp⟩
    have Hf := Lib.hid hp; clear hp
    go_wp2
    go_ret2
    exact ⟨_, rfl, Hf.out⟩

theorem hearD_any (h : DirAt w lo p m b L wvs d) (x : MsgV) :
    Calls Tryd.prog 10 #[.pointer (some ⟨p, 0, none⟩), .agg x.cells.toArray] w fun e w' => ∃ v, e = .returned (.tuple #[v, .int .i64 (d.hear x).2.2]) ∧ HPost w lo p m b L wvs (d.hear x).1 (d.hear x).2.1 v w' := by
  by_cases hl : 0 ≤ x.line ∧ x.line < d.n
  · by_cases hc : 0 ≤ x.core ∧ x.core < d.cores
    · exact hear_in h x hl hc
    · exact hear_core h x hl hc
  · exact hear_line h x hl
end

end Go.Proofs.YtnhainjdaafmiaaDoor
