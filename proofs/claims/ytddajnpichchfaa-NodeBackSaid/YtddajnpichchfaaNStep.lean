/- Every call of a cache, over all inputs, as one plain function of what lies in it. Conditions: those stated in each theorem. -/
import Derived.Test.YtddajnpichchfaaPromO
import Derived.BigFrame
namespace Go.Proofs.Ytddajnpichchfaa
open Go.RowKit

abbrev Sets := List (List Ent)
def fillL (ss : Sets) (u k st : Int) (d : L8) : Sets × Int × Value :=
  if k < 0 ∨ (st ≠ 1 ∧ st ≠ 2) then (ss, u, .tuple #[.agg Ent.zero.cells.toArray, .bool false, .int .i64 2])
  else match Finds ss k with
    | some _ => (ss, u, .tuple #[.agg Ent.zero.cells.toArray, .bool false, .int .i64 21])
    | none => match Goes ss k.toNat with
      | none => (ss, u, .tuple #[.agg Ent.zero.cells.toArray, .bool false, .int .i64 22])
      | some (i, j) => (upd ss i j (Ent.fresh k st d (u + 1)), u + 1, .tuple #[.agg (getE ss i j).cells.toArray, .bool ((getE ss i j).state != 0), .int .i64 0])
def wordL (ss : Sets) (u a : Int) : Sets × Int × Value :=
  if a < 0 then (ss, u, .tuple #[.int .u64 0, .int .i64 2])
  else match Finds ss ((a.toNat / 8 : Nat) : Int) with
    | none => (ss, u, .tuple #[.int .u64 0, .int .i64 20])
    | some (i, j) => (upd ss i j { getE ss i j with used := u + 1 }, u + 1, .tuple #[.int .u64 ((getE ss i j).data.get (a.toNat % 8)), .int .i64 0])
def putL (ss : Sets) (u a v : Int) : Sets × Int × Value :=
  if a < 0 then (ss, u, .int .i64 2)
  else match Finds ss ((a.toNat / 8 : Nat) : Int) with
    | none => (ss, u, .int .i64 20)
    | some (i, j) => if (getE ss i j).state = 2 then (upd ss i j { getE ss i j with used := u + 1, data := (getE ss i j).data.set (a.toNat % 8) v }, u + 1, .int .i64 0) else (ss, u, .int .i64 20)
def markL (ss : Sets) (u k : Int) (write : Bool) : Sets × Int × Value :=
  match Finds ss k with
    | none => (ss, u, .int .i64 20)
    | some (i, j) => if write then (if (getE ss i j).state = 2 then (upd ss i j (getE ss i j).keep, u, .int .i64 0) else (ss, u, .int .i64 20)) else (upd ss i j { getE ss i j with read := true }, u, .int .i64 0)
def demoteL (ss : Sets) (u k : Int) : Sets × Int × Value :=
  match Finds ss k with
    | none => (ss, u, .tuple #[.agg L8.zero.cells.toArray, .int .i64 20])
    | some (i, j) => if (getE ss i j).state = 2 then (upd ss i j { getE ss i j with state := 1 }, u, .tuple #[.agg (getE ss i j).data.cells.toArray, .int .i64 0]) else (ss, u, .tuple #[.agg L8.zero.cells.toArray, .int .i64 20])
def promoteL (ss : Sets) (u k : Int) (d : L8) : Sets × Int × Value :=
  match Finds ss k with
    | none => (ss, u, .int .i64 20)
    | some (i, j) => if (getE ss i j).state = 1 then (upd ss i j { getE ss i j with state := 2, data := d }, u, .int .i64 0) else (ss, u, .int .i64 20)
def dropL (ss : Sets) (u k : Int) : Sets × Int × Value :=
  match Finds ss k with
    | none => (ss, u, .tuple #[.agg Ent.zero.cells.toArray, .int .i64 20])
    | some (i, j) => (upd ss i j Ent.zero, u, .tuple #[.agg (getE ss i j).cells.toArray, .int .i64 0])
def findL (ss : Sets) (u k : Int) : Sets × Int × Value :=
  match Finds ss k with
    | none => (ss, u, .tuple #[.agg Ent.zero.cells.toArray, .bool false])
    | some (i, j) => (ss, u, .tuple #[.agg (getE ss i j).cells.toArray, .bool true])

/-- A call goes on so. -/
def Does (w : World) (p S : Nat) (bs : List Nat) (ways : Nat) (r : Sets × Int × Value) (e : Ending) (w' : World) : Prop :=
  e = .returned r.2.2 ∧ CacheAt w' p S bs ways r.1 r.2.1 ∧ Tch (Turns p bs) w w'
section
variable {w : World} {p S : Nat} {bs : List Nat} {ways : Nat} {ss : List (List Ent)} {u : Int}

theorem Does.idle (h : CacheAt w p S bs ways ss u) {e : Ending} {w' : World} {v : Value} (hb : e = .returned v ∧ Below w.heap.size w w') : Does w p S bs ways (ss, u, v) e w' := ⟨hb.1, h.below hb.2 (Nat.le_refl _), turns_of_below hb.2⟩
theorem Does.turn (_ : CacheAt w p S bs ways ss u) {e : Ending} {w' : World} {v : Value} {ss' : Sets} {u' : Int} (hb : e = .returned v ∧ CacheAt w' p S bs ways ss' u' ∧ Tch (Turns p bs) w w') : Does w p S bs ways (ss', u', v) e w' := hb

theorem fill_any (h : CacheAt w p S bs ways ss u) (k st : Int) (d : L8) (h0 : 0 ≤ u) (hu : u < 4294967296) :
    Calls Try.prog 32 #[.pointer (some ⟨p, 0, none⟩), .int .i64 k, .int .i64 st, .agg #[.int .u64 d.x0, .int .u64 d.x1, .int .u64 d.x2, .int .u64 d.x3, .int .u64 d.x4, .int .u64 d.x5, .int .u64 d.x6, .int .u64 d.x7]] w (Does w p S bs ways (fillL ss u k st d)) := by
  unfold fillL
  by_cases hk : k < 0 ∨ (st ≠ 1 ∧ st ≠ 2)
  · rw [if_pos hk]
    exact (fill_arg p k st d w hk).mono fun e w' hb => Does.idle h hb
  · rw [if_neg hk]
    obtain ⟨n, rfl⟩ := Int.eq_ofNat_of_zero_le (show 0 ≤ k by omega)
    have hst : st = 1 ∨ st = 2 := by omega
    split
    next x hf => exact (fill_twice h n st d hst hf).mono fun e w' hb => Does.idle h hb
    next hf =>
      rw [Int.toNat_natCast]
      split
      next hg => exact (fill_marked h n st d hst hf hg).mono fun e w' hb => Does.idle h hb
      next i j hg => exact (fill_ok h n st hst d hf hg h0 hu).mono fun e w' hb => Does.turn h hb
theorem word_any (h : CacheAt w p S bs ways ss u) (a : Int) (ha : a ≤ 9223372036854775807) (h0 : 0 ≤ u) (hu : u < 4294967296) :
    Calls Try.prog 34 #[.pointer (some ⟨p, 0, none⟩), .int .i64 a] w (Does w p S bs ways (wordL ss u a)) := by
  unfold wordL
  by_cases hk : a < 0
  · rw [if_pos hk]
    exact (word_neg a p w hk).mono fun e w' hb => Does.idle h hb
  · rw [if_neg hk]
    obtain ⟨n, rfl⟩ := Int.eq_ofNat_of_zero_le (show 0 ≤ a by omega)
    rw [Int.toNat_natCast]
    split
    next hf => exact (word_none h n (by omega) hf).mono fun e w' hb => Does.idle h hb
    next i j hf => exact (word_ok h n (by omega) hf h0 hu).mono fun e w' hb => Does.turn h hb
theorem put_any (h : CacheAt w p S bs ways ss u) (a v : Int) (ha : a ≤ 9223372036854775807) (h0 : 0 ≤ u) (hu : u < 4294967296) :
    Calls Try.prog 36 #[.pointer (some ⟨p, 0, none⟩), .int .i64 a, .int .u64 v] w (Does w p S bs ways (putL ss u a v)) := by
  unfold putL
  by_cases hk : a < 0
  · rw [if_pos hk]
    exact (put_neg a v p w hk).mono fun e w' hb => Does.idle h hb
  · rw [if_neg hk]
    obtain ⟨n, rfl⟩ := Int.eq_ofNat_of_zero_le (show 0 ≤ a by omega)
    rw [Int.toNat_natCast]
    split
    next hf => exact (put_none h n v (by omega) hf).mono fun e w' hb => Does.idle h hb
    next i j hf =>
      by_cases ht : (getE ss i j).state = 2
      · rw [if_pos ht]; exact (put_ok h n v (by omega) hf ht h0 hu).mono fun e w' hb => Does.turn h hb
      · rw [if_neg ht]; exact (put_shared h n v (by omega) hf ht).mono fun e w' hb => Does.idle h hb
theorem mark_any (h : CacheAt w p S bs ways ss u) (k : Int) (write : Bool) :
    Calls Try.prog 38 #[.pointer (some ⟨p, 0, none⟩), .int .i64 k, .bool write] w (Does w p S bs ways (markL ss u k write)) := by
  unfold markL
  cases write
  · split
    next hf => exact (mark_none h k hf).mono fun e w' hb => Does.idle h hb
    next i j hf => exact (mark_read h k hf).mono fun e w' hb => Does.turn h hb
  · split
    next hf => exact (mark_write k 20 (markW_bad k (.inr rfl) (heldAs_none h 2 hf))).mono fun e w' hb => Does.idle h hb
    next i j hf =>
      rw [if_pos rfl]
      by_cases ht : (getE ss i j).state = 2
      · rw [if_pos ht]; exact (mark_write k 0 (markW_ok h k hf ht)).mono fun e w' hb => Does.turn h hb
      · rw [if_neg ht]; exact (mark_write k 20 (markW_bad k (.inr rfl) (heldAs_other h 2 hf ht))).mono fun e w' hb => Does.idle h hb
theorem demote_any (h : CacheAt w p S bs ways ss u) (k : Int) :
    Calls Try.prog 40 #[.pointer (some ⟨p, 0, none⟩), .int .i64 k] w (Does w p S bs ways (demoteL ss u k)) := by
  unfold demoteL
  split
  next hf => exact (demote_bad k (.inr rfl) (fun W hW => heldAs_none (hW ▸ h.alloc _) 2 hf)).mono fun e w' hb => Does.idle h hb
  next i j hf =>
    by_cases ht : (getE ss i j).state = 2
    · rw [if_pos ht]; exact (demote_ok h k hf ht).mono fun e w' hb => Does.turn h hb
    · rw [if_neg ht]; exact (demote_bad k (.inr rfl) (fun W hW => heldAs_other (hW ▸ h.alloc _) 2 hf ht)).mono fun e w' hb => Does.idle h hb
theorem promote_any (h : CacheAt w p S bs ways ss u) (k : Int) (d : L8) :
    Calls Try.prog 42 #[.pointer (some ⟨p, 0, none⟩), .int .i64 k, .agg #[.int .u64 d.x0, .int .u64 d.x1, .int .u64 d.x2, .int .u64 d.x3, .int .u64 d.x4, .int .u64 d.x5, .int .u64 d.x6, .int .u64 d.x7]] w (Does w p S bs ways (promoteL ss u k d)) := by
  unfold promoteL
  split
  next hf => exact (promote_bad k d (.inr rfl) (fun W hW => heldAs_none (hW ▸ h.alloc _) 1 hf)).mono fun e w' hb => Does.idle h hb
  next i j hf =>
    by_cases ht : (getE ss i j).state = 1
    · rw [if_pos ht]; exact (promote_ok h k d hf ht).mono fun e w' hb => Does.turn h hb
    · rw [if_neg ht]; exact (promote_bad k d (.inr rfl) (fun W hW => heldAs_other (hW ▸ h.alloc _) 1 hf ht)).mono fun e w' hb => Does.idle h hb
theorem drop_any (h : CacheAt w p S bs ways ss u) (k : Int) :
    Calls Try.prog 44 #[.pointer (some ⟨p, 0, none⟩), .int .i64 k] w (Does w p S bs ways (dropL ss u k)) := by
  unfold dropL
  split
  next hf => exact (drop_bad k (.inr rfl) (fun W hW => held_none (hW ▸ h.alloc _) hf)).mono fun e w' hb => Does.idle h hb
  next i j hf => exact (drop_some h k hf).mono fun e w' hb => Does.turn h hb
theorem find_any (h : CacheAt w p S bs ways ss u) (k : Int) :
    Calls Try.prog 50 #[.pointer (some ⟨p, 0, none⟩), .int .i64 k] w (Does w p S bs ways (findL ss u k)) := by
  unfold findL
  split
  next hf => exact (find_bad k (.inr rfl) (fun W hW => held_none (hW ▸ h.alloc _) hf)).mono fun e w' hb => Does.idle h hb
  next i j hf => exact (find_some h k hf).mono fun e w' hb => Does.idle h hb
theorem commit_st (h : CacheAt w p S bs ways ss u) :
    Calls Try.prog 46 #[.pointer (some ⟨p, 0, none⟩)] w (Does w p S bs ways (turnAll Ent.clear ss, u, .int .i64 0)) :=
  (commit_any p S ways bs ss u w h).mono fun _ _ hb => Does.turn h ⟨hb.1, hb.2.1, hb.2.2.mono (fun _ _ h => .inr h)⟩
theorem discard_st (h : CacheAt w p S bs ways ss u) :
    Calls Try.prog 48 #[.pointer (some ⟨p, 0, none⟩)] w (Does w p S bs ways (turnAll Ent.clear (turnAll Ent.back ss), u, .int .i64 0)) :=
  (discard_any p S ways bs ss u w h).mono fun _ _ hb => Does.turn h ⟨hb.1, hb.2.1, hb.2.2.mono (fun _ _ h => .inr h)⟩
end

end Go.Proofs.Ytddajnpichchfaa
