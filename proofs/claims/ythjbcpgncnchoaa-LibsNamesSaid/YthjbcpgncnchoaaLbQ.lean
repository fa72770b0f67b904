/- A library's calls: what code each answers. Conditions: those stated in each theorem. -/
import Derived.Test.YthjbcpgncnchoaaLbP
namespace Go.Proofs.Ythjbcpgncnchoaa
open Go.RowKit Go.BigFrame Go.Maps

/-- What a call of a library leaves. -/
def LibO (w : World) (P : Pl) (code : List In) (e : Ending) (w' : World) : Prop :=
  ∃ v n, e = .returned (.tuple #[v, .int .i64 n]) ∧ Below w.heap.size w w' ∧ (P.mayBe = true → n = 0 ∧ w'.ownsRow w.heap.size 40 5 v code.length (flatI code)) ∧ (P.mayBe = false → n = 130 ∧ v = .slice none 0 0)
theorem Pl.Any.may {p : Pl} (h : p.Any) (hm : p.mayBe = true) : p.Ok := h.ok (mayBe_in hm).1

section
variable {w w0 : World} {B N b : Nat} {P : Pl} {x : WV}
theorem cl_along (hP : P.Ok) (W : World) : Cl B P W b 70000 1 (fun y => y.along P) 48 #[.pointer (some ⟨b, 0, none⟩)] := ⟨en_along, fun _ _ _ h hM => (along_any h hP (by omega))⟩
theorem cl_shorten (hP : P.Ok) (W : World) : Cl B P W b 70000 2 (fun y => y.shorten P) 51 #[.pointer (some ⟨b, 0, none⟩)] := ⟨en_shorten, fun _ _ _ h hM => (shorten_any h hP (by omega))⟩
theorem cl_aside (hP : P.Ok) (W : World) : Cl B P W b 70000 5 (fun y => y.aside P) 55 #[.pointer (some ⟨b, 0, none⟩)] := ⟨en_aside, fun _ _ _ h hM => (aside_any h hP (by omega))⟩
theorem cl_unhang (hP : P.Ok) (W : World) : Cl B P W b 70000 29 (fun y => y.unhang P) 59 #[.pointer (some ⟨b, 0, none⟩)] := ⟨en_unhang, fun _ _ _ h hM => (unhang_any h hP (by omega))⟩
end

theorem en_QueuePush : En 42 := fun _ _ => by kernel_rfl
set_option maxRecDepth 100000 in
set_option maxHeartbeats 1000000 in
theorem wr_QueuePush (P : Pl) (hP : P.Ok) (v : Int) (hv : 0 ≤ v ∧ v < 18446744073709551616) (w : World) (cv : Nat) (hcv : Holds w cv 24 [.int .u64 v]) : Wr P w 1000 (fun x => x.push P v) 42 #[] #[.pointer (some ⟨cv, 0, none⟩)] where
  en := en_QueuePush
  does := fun W b hb h => by
    have kv := (hcv.below hb).cell (i := 0) rfl
    have HC := Lib.hid (push_any h hP v hv (by omega)); clear h
    have hmf := hmf_any
    simp only [Array.append_assoc, List.append_toArray, List.nil_append, List.cons_append]
    go_enter Try.func42, Try.ntmps42
    go_wp2_with (go_at_call 43; (with_reducible refine HC.out.mono ?_); rintro e w1 ⟨rfl, h⟩; have H := Lib.hid h; clear h)
    exact ⟨rfl, .tuple #[], (by simp [results, Try.results42, go_sem]), rfl, H.out.more (by omega)⟩

set_option maxRecDepth 100000 in
set_option maxHeartbeats 1000000 in
theorem QueuePush_any (base cap : Int) (hb : I64 base) (hc : I64 cap) (v : Int) (hv : 0 ≤ v ∧ v < 18446744073709551616) (w : World) : Calls Try.prog 21 #[.int .i64 base, .int .i64 cap, .int .u64 v] w fun e w' => LibO w (queueP base cap) (codeQPush (queueP base cap) v).out e w' := by
  have hPA : (queueP base cap).Any := queueP_any hb hc
  have hbl : Below w.heap.size w (w.alloc (.cells #[.int .u64 v] 24)) := (Below.refl _ w).alloc (Nat.le_refl _) _
  have HB := Lib.hid hbl; clear hbl
  have HCv : Hid (Holds (w.alloc (.cells #[.int .u64 v] 24)) (w.heap.size) 24 [.int .u64 v]) := Lib.hid (Holds.new w 24 [.int .u64 v])
  have hmf := hmf_any
  have HA := Lib.hid (fun W => queueAt_any base cap W)
  cases hm : (queueP base cap).mayBe with
  | false =>
    have HW := Lib.hid (fun fn fs cs W => written_no (queueP base cap) hPA hm fn fs cs W)
    have hO : ∀ w', Below w.heap.size w w' → LibO w (queueP base cap) (codeQPush (queueP base cap) v).out (.returned (.tuple #[.slice none 0 0, .int .i64 130])) w' := fun w' h => ⟨_, _, rfl, h, fun e => (by rw [hm] at e; cases e), fun _ => ⟨rfl, rfl⟩⟩
    have HO := Lib.hid hO; clear hO hm hPA
    generalize (queueP base cap) = P at *
    go_enter Try.func21, Try.ntmps21
    go_wp2_with (first | (go_at_call 35; (with_reducible refine (HA.out _).mono ?_); rintro e V ⟨rfl, h⟩; have HQ := Lib.hid h; clear h) | (go_at_call 41; (with_reducible refine (HW.out _ _ _ _).mono ?_); rintro e V2 ⟨rfl, h⟩; have HR := Lib.hid h; clear h))
    have hfin := HO.out _ (HB.out.trans ((HQ.out.trans (HR.out.mono HQ.out.size)).mono HB.out.size))
    refine bodyPost_ret (results_tmp2 rfl _ _ _) rfl ?_
    exact hfin
  | true =>
    have HOk := Lib.hid (hPA.may hm)
    have hinv : Inv (codeQPush (queueP base cap) v) 120 := inv_QPush
    have HW := Lib.hid (fun (fs cs : Array Value) (g : FuncId) (W : World) (hF : Wr (queueP base cap) W 1000 (fun x => x.push (queueP base cap) v) g fs cs) => written_yes (queueP base cap) hPA hm W hF (by decide) (fun g hg => hinv.goes g hg))
    have hO : ∀ w' vv, Below w.heap.size w w' → w'.ownsRow w.heap.size 40 5 vv (codeQPush (queueP base cap) v).out.length (flatI (codeQPush (queueP base cap) v).out) → LibO w (queueP base cap) (codeQPush (queueP base cap) v).out (.returned (.tuple #[vv, .int .i64 0])) w' := fun w' vv h h2 => ⟨_, _, rfl, h, fun _ => ⟨rfl, h2⟩, fun e => (by rw [hm] at e; cases e)⟩
    have HO := Lib.hid hO; clear hO hm hPA hinv
    go_enter Try.func21, Try.ntmps21
    go_wp2_with (first | (go_at_call 35; (with_reducible refine (HA.out _).mono ?_); rintro e V ⟨rfl, h⟩; have HQ := Lib.hid h; clear h) | (go_at_call 41; (with_reducible refine (HW.out _ _ _ _ (wr_QueuePush _ (HOk.out) v hv _ _ (HCv.out.below HQ.out))).mono ?_); rintro e V2 ⟨v2, rfl, h, h2⟩; have HR := Lib.hid h; have HR2 := Lib.hid h2; clear h h2))
    have hfin := HO.out _ v2 (HB.out.trans ((HQ.out.trans (HR2.out.mono HQ.out.size)).mono HB.out.size)) (owns_mono HR.out (fun g e => Nat.le_trans (Nat.le_trans HB.out.size HQ.out.size) (owns_lt HR.out e).1))
    refine bodyPost_ret (results_tmp2 rfl _ _ _) rfl ?_
    exact hfin

theorem en_QueuePop : En 44 := fun _ _ => by kernel_rfl
set_option maxRecDepth 100000 in
set_option maxHeartbeats 1000000 in
theorem wr_QueuePop (P : Pl) (hP : P.Ok) (w : World) : Wr P w 1000 (fun x => x.pop P) 44 #[] #[] where
  en := en_QueuePop
  does := fun W b hb h => by
    have HC := Lib.hid (pop_any h hP (by omega)); clear h
    have hmf := hmf_any
    simp only [Array.append_assoc, List.append_toArray, List.nil_append, List.cons_append]
    go_enter Try.func44, Try.ntmps44
    go_wp2_with (go_at_call 45; (with_reducible refine HC.out.mono ?_); rintro e w1 ⟨rfl, h⟩; have H := Lib.hid h; clear h)
    exact ⟨rfl, .tuple #[], (by simp [results, Try.results44, go_sem]), rfl, H.out.more (by omega)⟩

set_option maxRecDepth 100000 in
set_option maxHeartbeats 1000000 in
theorem QueuePop_any (base cap : Int) (hb : I64 base) (hc : I64 cap) (w : World) : Calls Try.prog 23 #[.int .i64 base, .int .i64 cap] w fun e w' => LibO w (queueP base cap) (codeQPop (queueP base cap)).out e w' := by
  have hPA : (queueP base cap).Any := queueP_any hb hc
  have hbl : Below w.heap.size w w := Below.refl _ w
  have HB := Lib.hid hbl; clear hbl
  have hmf := hmf_any
  have HA := Lib.hid (fun W => queueAt_any base cap W)
  cases hm : (queueP base cap).mayBe with
  | false =>
    have HW := Lib.hid (fun fn fs cs W => written_no (queueP base cap) hPA hm fn fs cs W)
    have hO : ∀ w', Below w.heap.size w w' → LibO w (queueP base cap) (codeQPop (queueP base cap)).out (.returned (.tuple #[.slice none 0 0, .int .i64 130])) w' := fun w' h => ⟨_, _, rfl, h, fun e => (by rw [hm] at e; cases e), fun _ => ⟨rfl, rfl⟩⟩
    have HO := Lib.hid hO; clear hO hm hPA
    generalize (queueP base cap) = P at *
    go_enter Try.func23, Try.ntmps23
    go_wp2_with (first | (go_at_call 35; (with_reducible refine (HA.out _).mono ?_); rintro e V ⟨rfl, h⟩; have HQ := Lib.hid h; clear h) | (go_at_call 41; (with_reducible refine (HW.out _ _ _ _).mono ?_); rintro e V2 ⟨rfl, h⟩; have HR := Lib.hid h; clear h))
    have hfin := HO.out _ (HB.out.trans ((HQ.out.trans (HR.out.mono HQ.out.size)).mono HB.out.size))
    refine bodyPost_ret (results_tmp2 rfl _ _ _) rfl ?_
    exact hfin
  | true =>
    have HOk := Lib.hid (hPA.may hm)
    have hinv : Inv (codeQPop (queueP base cap)) 120 := inv_QPop
    have HW := Lib.hid (fun (fs cs : Array Value) (g : FuncId) (W : World) (hF : Wr (queueP base cap) W 1000 (fun x => x.pop (queueP base cap)) g fs cs) => written_yes (queueP base cap) hPA hm W hF (by decide) (fun g hg => hinv.goes g hg))
    have hO : ∀ w' vv, Below w.heap.size w w' → w'.ownsRow w.heap.size 40 5 vv (codeQPop (queueP base cap)).out.length (flatI (codeQPop (queueP base cap)).out) → LibO w (queueP base cap) (codeQPop (queueP base cap)).out (.returned (.tuple #[vv, .int .i64 0])) w' := fun w' vv h h2 => ⟨_, _, rfl, h, fun _ => ⟨rfl, h2⟩, fun e => (by rw [hm] at e; cases e)⟩
    have HO := Lib.hid hO; clear hO hm hPA hinv
    go_enter Try.func23, Try.ntmps23
    go_wp2_with (first | (go_at_call 35; (with_reducible refine (HA.out _).mono ?_); rintro e V ⟨rfl, h⟩; have HQ := Lib.hid h; clear h) | (go_at_call 41; (with_reducible refine (HW.out _ _ _ _ (wr_QueuePop _ (HOk.out) _)).mono ?_); rintro e V2 ⟨v2, rfl, h, h2⟩; have HR := Lib.hid h; have HR2 := Lib.hid h2; clear h h2))
    have hfin := HO.out _ v2 (HB.out.trans ((HQ.out.trans (HR2.out.mono HQ.out.size)).mono HB.out.size)) (owns_mono HR.out (fun g e => Nat.le_trans (Nat.le_trans HB.out.size HQ.out.size) (owns_lt HR.out e).1))
    refine bodyPost_ret (results_tmp2 rfl _ _ _) rfl ?_
    exact hfin

theorem en_HashPut : En 46 := fun _ _ => by kernel_rfl
set_option maxRecDepth 100000 in
set_option maxHeartbeats 1000000 in
theorem wr_HashPut (P : Pl) (hP : P.Ok) (k : Int) (hk : 0 ≤ k ∧ k < 18446744073709551616) (v : Int) (hv : 0 ≤ v ∧ v < 18446744073709551616) (w : World) (ck : Nat) (cv : Nat) (hck : Holds w ck 24 [.int .u64 k]) (hcv : Holds w cv 24 [.int .u64 v]) : Wr P w 1000 (fun x => x.put P (fun y => y.along P) k v) 46 #[] #[.pointer (some ⟨ck, 0, none⟩), .pointer (some ⟨cv, 0, none⟩)] where
  en := en_HashPut
  does := fun W b hb h => by
    have kk := (hck.below hb).cell (i := 0) rfl
    have kv := (hcv.below hb).cell (i := 0) rfl
    have HC := Lib.hid (put_any h hP k hk v hv (fs := #[.pointer (some ⟨b, 0, none⟩)]) (cs := #[]) (A := #[.pointer (some ⟨b, 0, none⟩)]) (by simp) (fun W _ => cl_along hP W) (by decide) (by omega)); clear h
    have hmf := hmf_any
    simp only [Array.append_assoc, List.append_toArray, List.nil_append, List.cons_append]
    go_enter Try.func46, Try.ntmps46
    go_wp2_with (go_at_call 47; (with_reducible refine HC.out.mono ?_); rintro e w1 ⟨rfl, h⟩; have H := Lib.hid h; clear h)
    exact ⟨rfl, .tuple #[], (by simp [results, Try.results46, go_sem]), rfl, H.out.more (by omega)⟩

set_option maxRecDepth 100000 in
set_option maxHeartbeats 1000000 in
theorem HashPut_any (base buckets cap : Int) (hb : I64 base) (hc : I64 cap) (k : Int) (hk : 0 ≤ k ∧ k < 18446744073709551616) (v : Int) (hv : 0 ≤ v ∧ v < 18446744073709551616) (w : World) : Calls Try.prog 25 #[.int .i64 base, .int .i64 buckets, .int .i64 cap, .int .u64 k, .int .u64 v] w fun e w' => LibO w (hashP base buckets cap) (codeHPut (hashP base buckets cap) k v).out e w' := by
  have hPA : (hashP base buckets cap).Any := hashP_any hb hc
  have hbl : Below w.heap.size w ((w.alloc (.cells #[.int .u64 k] 24)).alloc (.cells #[.int .u64 v] 24)) := ((Below.refl _ w).alloc (Nat.le_refl _) _).alloc (by simp) _
  have HB := Lib.hid hbl; clear hbl
  have HCk : Hid (Holds ((w.alloc (.cells #[.int .u64 k] 24)).alloc (.cells #[.int .u64 v] 24)) (w.heap.size) 24 [.int .u64 k]) := Lib.hid ((Holds.new w 24 [.int .u64 k]).alloc _)
  have HCv : Hid (Holds ((w.alloc (.cells #[.int .u64 k] 24)).alloc (.cells #[.int .u64 v] 24)) (w.heap.size + 1) 24 [.int .u64 v]) := Lib.hid (newAt (by simp) 24 [.int .u64 v])
  have hmf := hmf_any
  have HA := Lib.hid (fun W => hashAt_any base buckets cap W)
  cases hm : (hashP base buckets cap).mayBe with
  | false =>
    have HW := Lib.hid (fun fn fs cs W => written_no (hashP base buckets cap) hPA hm fn fs cs W)
    have hO : ∀ w', Below w.heap.size w w' → LibO w (hashP base buckets cap) (codeHPut (hashP base buckets cap) k v).out (.returned (.tuple #[.slice none 0 0, .int .i64 130])) w' := fun w' h => ⟨_, _, rfl, h, fun e => (by rw [hm] at e; cases e), fun _ => ⟨rfl, rfl⟩⟩
    have HO := Lib.hid hO; clear hO hm hPA
    generalize (hashP base buckets cap) = P at *
    go_enter Try.func25, Try.ntmps25
    go_wp2_with (first | (go_at_call 37; (with_reducible refine (HA.out _).mono ?_); rintro e V ⟨rfl, h⟩; have HQ := Lib.hid h; clear h) | (go_at_call 41; (with_reducible refine (HW.out _ _ _ _).mono ?_); rintro e V2 ⟨rfl, h⟩; have HR := Lib.hid h; clear h))
    have hfin := HO.out _ (HB.out.trans ((HQ.out.trans (HR.out.mono HQ.out.size)).mono HB.out.size))
    refine bodyPost_ret (results_tmp2 rfl _ _ _) rfl ?_
    exact hfin
  | true =>
    have HOk := Lib.hid (hPA.may hm)
    have hinv : Inv (codeHPut (hashP base buckets cap) k v) 120 := inv_HPut (by have := (hPA.may hm).w1; unfold Pl.links; omega)
    have HW := Lib.hid (fun (fs cs : Array Value) (g : FuncId) (W : World) (hF : Wr (hashP base buckets cap) W 1000 (fun x => x.put (hashP base buckets cap) (fun y => y.along (hashP base buckets cap)) k v) g fs cs) => written_yes (hashP base buckets cap) hPA hm W hF (by decide) (fun g hg => hinv.goes g hg))
    have hO : ∀ w' vv, Below w.heap.size w w' → w'.ownsRow w.heap.size 40 5 vv (codeHPut (hashP base buckets cap) k v).out.length (flatI (codeHPut (hashP base buckets cap) k v).out) → LibO w (hashP base buckets cap) (codeHPut (hashP base buckets cap) k v).out (.returned (.tuple #[vv, .int .i64 0])) w' := fun w' vv h h2 => ⟨_, _, rfl, h, fun _ => ⟨rfl, h2⟩, fun e => (by rw [hm] at e; cases e)⟩
    have HO := Lib.hid hO; clear hO hm hPA hinv
    go_enter Try.func25, Try.ntmps25
    go_wp2_with (first | (go_at_call 37; (with_reducible refine (HA.out _).mono ?_); rintro e V ⟨rfl, h⟩; have HQ := Lib.hid h; clear h) | (go_at_call 41; (with_reducible refine (HW.out _ _ _ _ (wr_HashPut _ (HOk.out) k hk v hv _ _ _ (HCk.out.below HQ.out) (HCv.out.below HQ.out))).mono ?_); rintro e V2 ⟨v2, rfl, h, h2⟩; have HR := Lib.hid h; have HR2 := Lib.hid h2; clear h h2))
    have hfin := HO.out _ v2 (HB.out.trans ((HQ.out.trans (HR2.out.mono HQ.out.size)).mono HB.out.size)) (owns_mono HR.out (fun g e => Nat.le_trans (Nat.le_trans HB.out.size HQ.out.size) (owns_lt HR.out e).1))
    refine bodyPost_ret (results_tmp2 rfl _ _ _) rfl ?_
    exact hfin

theorem en_HashGet : En 52 := fun _ _ => by kernel_rfl
set_option maxRecDepth 100000 in
set_option maxHeartbeats 1000000 in
theorem wr_HashGet (P : Pl) (hP : P.Ok) (k : Int) (hk : 0 ≤ k ∧ k < 18446744073709551616) (w : World) (ck : Nat) (hck : Holds w ck 24 [.int .u64 k]) : Wr P w 1000 (fun x => x.get P (fun y => y.along P) k) 52 #[] #[.pointer (some ⟨ck, 0, none⟩)] where
  en := en_HashGet
  does := fun W b hb h => by
    have kk := (hck.below hb).cell (i := 0) rfl
    have HC := Lib.hid (get_any h hP k hk (fs := #[.pointer (some ⟨b, 0, none⟩)]) (cs := #[]) (A := #[.pointer (some ⟨b, 0, none⟩)]) (by simp) (fun W _ => cl_along hP W) (by decide) (by omega)); clear h
    have hmf := hmf_any
    simp only [Array.append_assoc, List.append_toArray, List.nil_append, List.cons_append]
    go_enter Try.func52, Try.ntmps52
    go_wp2_with (go_at_call 53; (with_reducible refine HC.out.mono ?_); rintro e w1 ⟨rfl, h⟩; have H := Lib.hid h; clear h)
    exact ⟨rfl, .tuple #[], (by simp [results, Try.results52, go_sem]), rfl, H.out.more (by omega)⟩

set_option maxRecDepth 100000 in
set_option maxHeartbeats 1000000 in
theorem HashGet_any (base buckets cap : Int) (hb : I64 base) (hc : I64 cap) (k : Int) (hk : 0 ≤ k ∧ k < 18446744073709551616) (w : World) : Calls Try.prog 27 #[.int .i64 base, .int .i64 buckets, .int .i64 cap, .int .u64 k] w fun e w' => LibO w (hashP base buckets cap) (codeHGet (hashP base buckets cap) k).out e w' := by
  have hPA : (hashP base buckets cap).Any := hashP_any hb hc
  have hbl : Below w.heap.size w (w.alloc (.cells #[.int .u64 k] 24)) := (Below.refl _ w).alloc (Nat.le_refl _) _
  have HB := Lib.hid hbl; clear hbl
  have HCk : Hid (Holds (w.alloc (.cells #[.int .u64 k] 24)) (w.heap.size) 24 [.int .u64 k]) := Lib.hid (Holds.new w 24 [.int .u64 k])
  have hmf := hmf_any
  have HA := Lib.hid (fun W => hashAt_any base buckets cap W)
  cases hm : (hashP base buckets cap).mayBe with
  | false =>
    have HW := Lib.hid (fun fn fs cs W => written_no (hashP base buckets cap) hPA hm fn fs cs W)
    have hO : ∀ w', Below w.heap.size w w' → LibO w (hashP base buckets cap) (codeHGet (hashP base buckets cap) k).out (.returned (.tuple #[.slice none 0 0, .int .i64 130])) w' := fun w' h => ⟨_, _, rfl, h, fun e => (by rw [hm] at e; cases e), fun _ => ⟨rfl, rfl⟩⟩
    have HO := Lib.hid hO; clear hO hm hPA
    generalize (hashP base buckets cap) = P at *
    go_enter Try.func27, Try.ntmps27
    go_wp2_with (first | (go_at_call 37; (with_reducible refine (HA.out _).mono ?_); rintro e V ⟨rfl, h⟩; have HQ := Lib.hid h; clear h) | (go_at_call 41; (with_reducible refine (HW.out _ _ _ _).mono ?_); rintro e V2 ⟨rfl, h⟩; have HR := Lib.hid h; clear h))
    have hfin := HO.out _ (HB.out.trans ((HQ.out.trans (HR.out.mono HQ.out.size)).mono HB.out.size))
    refine bodyPost_ret (results_tmp2 rfl _ _ _) rfl ?_
    exact hfin
  | true =>
    have HOk := Lib.hid (hPA.may hm)
    have hinv : Inv (codeHGet (hashP base buckets cap) k) 120 := inv_HGet
    have HW := Lib.hid (fun (fs cs : Array Value) (g : FuncId) (W : World) (hF : Wr (hashP base buckets cap) W 1000 (fun x => x.get (hashP base buckets cap) (fun y => y.along (hashP base buckets cap)) k) g fs cs) => written_yes (hashP base buckets cap) hPA hm W hF (by decide) (fun g hg => hinv.goes g hg))
    have hO : ∀ w' vv, Below w.heap.size w w' → w'.ownsRow w.heap.size 40 5 vv (codeHGet (hashP base buckets cap) k).out.length (flatI (codeHGet (hashP base buckets cap) k).out) → LibO w (hashP base buckets cap) (codeHGet (hashP base buckets cap) k).out (.returned (.tuple #[vv, .int .i64 0])) w' := fun w' vv h h2 => ⟨_, _, rfl, h, fun _ => ⟨rfl, h2⟩, fun e => (by rw [hm] at e; cases e)⟩
    have HO := Lib.hid hO; clear hO hm hPA hinv
    go_enter Try.func27, Try.ntmps27
    go_wp2_with (first | (go_at_call 37; (with_reducible refine (HA.out _).mono ?_); rintro e V ⟨rfl, h⟩; have HQ := Lib.hid h; clear h) | (go_at_call 41; (with_reducible refine (HW.out _ _ _ _ (wr_HashGet _ (HOk.out) k hk _ _ (HCk.out.below HQ.out))).mono ?_); rintro e V2 ⟨v2, rfl, h, h2⟩; have HR := Lib.hid h; have HR2 := Lib.hid h2; clear h h2))
    have hfin := HO.out _ v2 (HB.out.trans ((HQ.out.trans (HR2.out.mono HQ.out.size)).mono HB.out.size)) (owns_mono HR.out (fun g e => Nat.le_trans (Nat.le_trans HB.out.size HQ.out.size) (owns_lt HR.out e).1))
    refine bodyPost_ret (results_tmp2 rfl _ _ _) rfl ?_
    exact hfin

theorem en_HashCut : En 49 := fun _ _ => by kernel_rfl
set_option maxRecDepth 100000 in
set_option maxHeartbeats 1000000 in
theorem wr_HashCut (P : Pl) (hP : P.Ok) (k : Int) (hk : 0 ≤ k ∧ k < 18446744073709551616) (w : World) (ck : Nat) (hck : Holds w ck 24 [.int .u64 k]) : Wr P w 1000 (fun x => x.cut P (fun y => y.along P) (fun y => y.shorten P) k) 49 #[] #[.pointer (some ⟨ck, 0, none⟩)] where
  en := en_HashCut
  does := fun W b hb h => by
    have kk := (hck.below hb).cell (i := 0) rfl
    have HC := Lib.hid (cut_any h hP k hk (fs := #[.pointer (some ⟨b, 0, none⟩)]) (cs := #[]) (A := #[.pointer (some ⟨b, 0, none⟩)]) (by simp) (fun W _ => cl_along hP W) (by decide) (fs2 := #[.pointer (some ⟨b, 0, none⟩)]) (cs2 := #[]) (A2 := #[.pointer (some ⟨b, 0, none⟩)]) (by simp) (fun W _ => cl_shorten hP W) (by decide) (by omega)); clear h
    have hmf := hmf_any
    simp only [Array.append_assoc, List.append_toArray, List.nil_append, List.cons_append]
    go_enter Try.func49, Try.ntmps49
    go_wp2_with (go_at_call 50; (with_reducible refine HC.out.mono ?_); rintro e w1 ⟨rfl, h⟩; have H := Lib.hid h; clear h)
    exact ⟨rfl, .tuple #[], (by simp [results, Try.results49, go_sem]), rfl, H.out.more (by omega)⟩

set_option maxRecDepth 100000 in
set_option maxHeartbeats 1000000 in
theorem HashCut_any (base buckets cap : Int) (hb : I64 base) (hc : I64 cap) (k : Int) (hk : 0 ≤ k ∧ k < 18446744073709551616) (w : World) : Calls Try.prog 26 #[.int .i64 base, .int .i64 buckets, .int .i64 cap, .int .u64 k] w fun e w' => LibO w (hashP base buckets cap) (codeHCut (hashP base buckets cap) k).out e w' := by
  have hPA : (hashP base buckets cap).Any := hashP_any hb hc
  have hbl : Below w.heap.size w (w.alloc (.cells #[.int .u64 k] 24)) := (Below.refl _ w).alloc (Nat.le_refl _) _
  have HB := Lib.hid hbl; clear hbl
  have HCk : Hid (Holds (w.alloc (.cells #[.int .u64 k] 24)) (w.heap.size) 24 [.int .u64 k]) := Lib.hid (Holds.new w 24 [.int .u64 k])
  have hmf := hmf_any
  have HA := Lib.hid (fun W => hashAt_any base buckets cap W)
  cases hm : (hashP base buckets cap).mayBe with
  | false =>
    have HW := Lib.hid (fun fn fs cs W => written_no (hashP base buckets cap) hPA hm fn fs cs W)
    have hO : ∀ w', Below w.heap.size w w' → LibO w (hashP base buckets cap) (codeHCut (hashP base buckets cap) k).out (.returned (.tuple #[.slice none 0 0, .int .i64 130])) w' := fun w' h => ⟨_, _, rfl, h, fun e => (by rw [hm] at e; cases e), fun _ => ⟨rfl, rfl⟩⟩
    have HO := Lib.hid hO; clear hO hm hPA
    generalize (hashP base buckets cap) = P at *
    go_enter Try.func26, Try.ntmps26
    go_wp2_with (first | (go_at_call 37; (with_reducible refine (HA.out _).mono ?_); rintro e V ⟨rfl, h⟩; have HQ := Lib.hid h; clear h) | (go_at_call 41; (with_reducible refine (HW.out _ _ _ _).mono ?_); rintro e V2 ⟨rfl, h⟩; have HR := Lib.hid h; clear h))
    have hfin := HO.out _ (HB.out.trans ((HQ.out.trans (HR.out.mono HQ.out.size)).mono HB.out.size))
    refine bodyPost_ret (results_tmp2 rfl _ _ _) rfl ?_
    exact hfin
  | true =>
    have HOk := Lib.hid (hPA.may hm)
    have hinv : Inv (codeHCut (hashP base buckets cap) k) 120 := inv_HCut
    have HW := Lib.hid (fun (fs cs : Array Value) (g : FuncId) (W : World) (hF : Wr (hashP base buckets cap) W 1000 (fun x => x.cut (hashP base buckets cap) (fun y => y.along (hashP base buckets cap)) (fun y => y.shorten (hashP base buckets cap)) k) g fs cs) => written_yes (hashP base buckets cap) hPA hm W hF (by decide) (fun g hg => hinv.goes g hg))
    have hO : ∀ w' vv, Below w.heap.size w w' → w'.ownsRow w.heap.size 40 5 vv (codeHCut (hashP base buckets cap) k).out.length (flatI (codeHCut (hashP base buckets cap) k).out) → LibO w (hashP base buckets cap) (codeHCut (hashP base buckets cap) k).out (.returned (.tuple #[vv, .int .i64 0])) w' := fun w' vv h h2 => ⟨_, _, rfl, h, fun _ => ⟨rfl, h2⟩, fun e => (by rw [hm] at e; cases e)⟩
    have HO := Lib.hid hO; clear hO hm hPA hinv
    go_enter Try.func26, Try.ntmps26
    go_wp2_with (first | (go_at_call 37; (with_reducible refine (HA.out _).mono ?_); rintro e V ⟨rfl, h⟩; have HQ := Lib.hid h; clear h) | (go_at_call 41; (with_reducible refine (HW.out _ _ _ _ (wr_HashCut _ (HOk.out) k hk _ _ (HCk.out.below HQ.out))).mono ?_); rintro e V2 ⟨v2, rfl, h, h2⟩; have HR := Lib.hid h; have HR2 := Lib.hid h2; clear h h2))
    have hfin := HO.out _ v2 (HB.out.trans ((HQ.out.trans (HR2.out.mono HQ.out.size)).mono HB.out.size)) (owns_mono HR.out (fun g e => Nat.le_trans (Nat.le_trans HB.out.size HQ.out.size) (owns_lt HR.out e).1))
    refine bodyPost_ret (results_tmp2 rfl _ _ _) rfl ?_
    exact hfin

theorem en_TreePut : En 54 := fun _ _ => by kernel_rfl
set_option maxRecDepth 100000 in
set_option maxHeartbeats 1000000 in
theorem wr_TreePut (P : Pl) (hP : P.Ok) (k : Int) (hk : 0 ≤ k ∧ k < 18446744073709551616) (v : Int) (hv : 0 ≤ v ∧ v < 18446744073709551616) (w : World) (ck : Nat) (cv : Nat) (hck : Holds w ck 24 [.int .u64 k]) (hcv : Holds w cv 24 [.int .u64 v]) : Wr P w 1000 (fun x => x.put P (fun y => y.aside P) k v) 54 #[] #[.pointer (some ⟨ck, 0, none⟩), .pointer (some ⟨cv, 0, none⟩)] where
  en := en_TreePut
  does := fun W b hb h => by
    have kk := (hck.below hb).cell (i := 0) rfl
    have kv := (hcv.below hb).cell (i := 0) rfl
    have HC := Lib.hid (put_any h hP k hk v hv (fs := #[.pointer (some ⟨b, 0, none⟩)]) (cs := #[]) (A := #[.pointer (some ⟨b, 0, none⟩)]) (by simp) (fun W _ => cl_aside hP W) (by decide) (by omega)); clear h
    have hmf := hmf_any
    simp only [Array.append_assoc, List.append_toArray, List.nil_append, List.cons_append]
    go_enter Try.func54, Try.ntmps54
    go_wp2_with (go_at_call 47; (with_reducible refine HC.out.mono ?_); rintro e w1 ⟨rfl, h⟩; have H := Lib.hid h; clear h)
    exact ⟨rfl, .tuple #[], (by simp [results, Try.results54, go_sem]), rfl, H.out.more (by omega)⟩

set_option maxRecDepth 100000 in
set_option maxHeartbeats 1000000 in
theorem TreePut_any (base cap : Int) (hb : I64 base) (hc : I64 cap) (k : Int) (hk : 0 ≤ k ∧ k < 18446744073709551616) (v : Int) (hv : 0 ≤ v ∧ v < 18446744073709551616) (w : World) : Calls Try.prog 29 #[.int .i64 base, .int .i64 cap, .int .u64 k, .int .u64 v] w fun e w' => LibO w (treeP base cap) (codeTPut (treeP base cap) k v).out e w' := by
  have hPA : (treeP base cap).Any := treeP_any hb hc
  have hbl : Below w.heap.size w ((w.alloc (.cells #[.int .u64 k] 24)).alloc (.cells #[.int .u64 v] 24)) := ((Below.refl _ w).alloc (Nat.le_refl _) _).alloc (by simp) _
  have HB := Lib.hid hbl; clear hbl
  have HCk : Hid (Holds ((w.alloc (.cells #[.int .u64 k] 24)).alloc (.cells #[.int .u64 v] 24)) (w.heap.size) 24 [.int .u64 k]) := Lib.hid ((Holds.new w 24 [.int .u64 k]).alloc _)
  have HCv : Hid (Holds ((w.alloc (.cells #[.int .u64 k] 24)).alloc (.cells #[.int .u64 v] 24)) (w.heap.size + 1) 24 [.int .u64 v]) := Lib.hid (newAt (by simp) 24 [.int .u64 v])
  have hmf := hmf_any
  have HA := Lib.hid (fun W => treeAt_any base cap W)
  cases hm : (treeP base cap).mayBe with
  | false =>
    have HW := Lib.hid (fun fn fs cs W => written_no (treeP base cap) hPA hm fn fs cs W)
    have hO : ∀ w', Below w.heap.size w w' → LibO w (treeP base cap) (codeTPut (treeP base cap) k v).out (.returned (.tuple #[.slice none 0 0, .int .i64 130])) w' := fun w' h => ⟨_, _, rfl, h, fun e => (by rw [hm] at e; cases e), fun _ => ⟨rfl, rfl⟩⟩
    have HO := Lib.hid hO; clear hO hm hPA
    generalize (treeP base cap) = P at *
    go_enter Try.func29, Try.ntmps29
    go_wp2_with (first | (go_at_call 38; (with_reducible refine (HA.out _).mono ?_); rintro e V ⟨rfl, h⟩; have HQ := Lib.hid h; clear h) | (go_at_call 41; (with_reducible refine (HW.out _ _ _ _).mono ?_); rintro e V2 ⟨rfl, h⟩; have HR := Lib.hid h; clear h))
    have hfin := HO.out _ (HB.out.trans ((HQ.out.trans (HR.out.mono HQ.out.size)).mono HB.out.size))
    refine bodyPost_ret (results_tmp2 rfl _ _ _) rfl ?_
    exact hfin
  | true =>
    have HOk := Lib.hid (hPA.may hm)
    have hinv : Inv (codeTPut (treeP base cap) k v) 120 := inv_TPut (by have := (hPA.may hm).w1; unfold Pl.links; omega)
    have HW := Lib.hid (fun (fs cs : Array Value) (g : FuncId) (W : World) (hF : Wr (treeP base cap) W 1000 (fun x => x.put (treeP base cap) (fun y => y.aside (treeP base cap)) k v) g fs cs) => written_yes (treeP base cap) hPA hm W hF (by decide) (fun g hg => hinv.goes g hg))
    have hO : ∀ w' vv, Below w.heap.size w w' → w'.ownsRow w.heap.size 40 5 vv (codeTPut (treeP base cap) k v).out.length (flatI (codeTPut (treeP base cap) k v).out) → LibO w (treeP base cap) (codeTPut (treeP base cap) k v).out (.returned (.tuple #[vv, .int .i64 0])) w' := fun w' vv h h2 => ⟨_, _, rfl, h, fun _ => ⟨rfl, h2⟩, fun e => (by rw [hm] at e; cases e)⟩
    have HO := Lib.hid hO; clear hO hm hPA hinv
    go_enter Try.func29, Try.ntmps29
    go_wp2_with (first | (go_at_call 38; (with_reducible refine (HA.out _).mono ?_); rintro e V ⟨rfl, h⟩; have HQ := Lib.hid h; clear h) | (go_at_call 41; (with_reducible refine (HW.out _ _ _ _ (wr_TreePut _ (HOk.out) k hk v hv _ _ _ (HCk.out.below HQ.out) (HCv.out.below HQ.out))).mono ?_); rintro e V2 ⟨v2, rfl, h, h2⟩; have HR := Lib.hid h; have HR2 := Lib.hid h2; clear h h2))
    have hfin := HO.out _ v2 (HB.out.trans ((HQ.out.trans (HR2.out.mono HQ.out.size)).mono HB.out.size)) (owns_mono HR.out (fun g e => Nat.le_trans (Nat.le_trans HB.out.size HQ.out.size) (owns_lt HR.out e).1))
    refine bodyPost_ret (results_tmp2 rfl _ _ _) rfl ?_
    exact hfin

theorem en_TreeGet : En 60 := fun _ _ => by kernel_rfl
set_option maxRecDepth 100000 in
set_option maxHeartbeats 1000000 in
theorem wr_TreeGet (P : Pl) (hP : P.Ok) (k : Int) (hk : 0 ≤ k ∧ k < 18446744073709551616) (w : World) (ck : Nat) (hck : Holds w ck 24 [.int .u64 k]) : Wr P w 1000 (fun x => x.get P (fun y => y.aside P) k) 60 #[] #[.pointer (some ⟨ck, 0, none⟩)] where
  en := en_TreeGet
  does := fun W b hb h => by
    have kk := (hck.below hb).cell (i := 0) rfl
    have HC := Lib.hid (get_any h hP k hk (fs := #[.pointer (some ⟨b, 0, none⟩)]) (cs := #[]) (A := #[.pointer (some ⟨b, 0, none⟩)]) (by simp) (fun W _ => cl_aside hP W) (by decide) (by omega)); clear h
    have hmf := hmf_any
    simp only [Array.append_assoc, List.append_toArray, List.nil_append, List.cons_append]
    go_enter Try.func60, Try.ntmps60
    go_wp2_with (go_at_call 53; (with_reducible refine HC.out.mono ?_); rintro e w1 ⟨rfl, h⟩; have H := Lib.hid h; clear h)
    exact ⟨rfl, .tuple #[], (by simp [results, Try.results60, go_sem]), rfl, H.out.more (by omega)⟩

set_option maxRecDepth 100000 in
set_option maxHeartbeats 1000000 in
theorem TreeGet_any (base cap : Int) (hb : I64 base) (hc : I64 cap) (k : Int) (hk : 0 ≤ k ∧ k < 18446744073709551616) (w : World) : Calls Try.prog 32 #[.int .i64 base, .int .i64 cap, .int .u64 k] w fun e w' => LibO w (treeP base cap) (codeTGet (treeP base cap) k).out e w' := by
  have hPA : (treeP base cap).Any := treeP_any hb hc
  have hbl : Below w.heap.size w (w.alloc (.cells #[.int .u64 k] 24)) := (Below.refl _ w).alloc (Nat.le_refl _) _
  have HB := Lib.hid hbl; clear hbl
  have HCk : Hid (Holds (w.alloc (.cells #[.int .u64 k] 24)) (w.heap.size) 24 [.int .u64 k]) := Lib.hid (Holds.new w 24 [.int .u64 k])
  have hmf := hmf_any
  have HA := Lib.hid (fun W => treeAt_any base cap W)
  cases hm : (treeP base cap).mayBe with
  | false =>
    have HW := Lib.hid (fun fn fs cs W => written_no (treeP base cap) hPA hm fn fs cs W)
    have hO : ∀ w', Below w.heap.size w w' → LibO w (treeP base cap) (codeTGet (treeP base cap) k).out (.returned (.tuple #[.slice none 0 0, .int .i64 130])) w' := fun w' h => ⟨_, _, rfl, h, fun e => (by rw [hm] at e; cases e), fun _ => ⟨rfl, rfl⟩⟩
    have HO := Lib.hid hO; clear hO hm hPA
    generalize (treeP base cap) = P at *
    go_enter Try.func32, Try.ntmps32
    go_wp2_with (first | (go_at_call 38; (with_reducible refine (HA.out _).mono ?_); rintro e V ⟨rfl, h⟩; have HQ := Lib.hid h; clear h) | (go_at_call 41; (with_reducible refine (HW.out _ _ _ _).mono ?_); rintro e V2 ⟨rfl, h⟩; have HR := Lib.hid h; clear h))
    have hfin := HO.out _ (HB.out.trans ((HQ.out.trans (HR.out.mono HQ.out.size)).mono HB.out.size))
    refine bodyPost_ret (results_tmp2 rfl _ _ _) rfl ?_
    exact hfin
  | true =>
    have HOk := Lib.hid (hPA.may hm)
    have hinv : Inv (codeTGet (treeP base cap) k) 120 := inv_TGet
    have HW := Lib.hid (fun (fs cs : Array Value) (g : FuncId) (W : World) (hF : Wr (treeP base cap) W 1000 (fun x => x.get (treeP base cap) (fun y => y.aside (treeP base cap)) k) g fs cs) => written_yes (treeP base cap) hPA hm W hF (by decide) (fun g hg => hinv.goes g hg))
    have hO : ∀ w' vv, Below w.heap.size w w' → w'.ownsRow w.heap.size 40 5 vv (codeTGet (treeP base cap) k).out.length (flatI (codeTGet (treeP base cap) k).out) → LibO w (treeP base cap) (codeTGet (treeP base cap) k).out (.returned (.tuple #[vv, .int .i64 0])) w' := fun w' vv h h2 => ⟨_, _, rfl, h, fun _ => ⟨rfl, h2⟩, fun e => (by rw [hm] at e; cases e)⟩
    have HO := Lib.hid hO; clear hO hm hPA hinv
    go_enter Try.func32, Try.ntmps32
    go_wp2_with (first | (go_at_call 38; (with_reducible refine (HA.out _).mono ?_); rintro e V ⟨rfl, h⟩; have HQ := Lib.hid h; clear h) | (go_at_call 41; (with_reducible refine (HW.out _ _ _ _ (wr_TreeGet _ (HOk.out) k hk _ _ (HCk.out.below HQ.out))).mono ?_); rintro e V2 ⟨v2, rfl, h, h2⟩; have HR := Lib.hid h; have HR2 := Lib.hid h2; clear h h2))
    have hfin := HO.out _ v2 (HB.out.trans ((HQ.out.trans (HR2.out.mono HQ.out.size)).mono HB.out.size)) (owns_mono HR.out (fun g e => Nat.le_trans (Nat.le_trans HB.out.size HQ.out.size) (owns_lt HR.out e).1))
    refine bodyPost_ret (results_tmp2 rfl _ _ _) rfl ?_
    exact hfin

theorem en_TreeCut : En 58 := fun _ _ => by kernel_rfl
set_option maxRecDepth 100000 in
set_option maxHeartbeats 1000000 in
theorem wr_TreeCut (P : Pl) (hP : P.Ok) (k : Int) (hk : 0 ≤ k ∧ k < 18446744073709551616) (w : World) (ck : Nat) (hck : Holds w ck 24 [.int .u64 k]) : Wr P w 1000 (fun x => x.cut P (fun y => y.aside P) (fun y => y.unhang P) k) 58 #[] #[.pointer (some ⟨ck, 0, none⟩)] where
  en := en_TreeCut
  does := fun W b hb h => by
    have kk := (hck.below hb).cell (i := 0) rfl
    have HC := Lib.hid (cut_any h hP k hk (fs := #[.pointer (some ⟨b, 0, none⟩)]) (cs := #[]) (A := #[.pointer (some ⟨b, 0, none⟩)]) (by simp) (fun W _ => cl_aside hP W) (by decide) (fs2 := #[.pointer (some ⟨b, 0, none⟩)]) (cs2 := #[]) (A2 := #[.pointer (some ⟨b, 0, none⟩)]) (by simp) (fun W _ => cl_unhang hP W) (by decide) (by omega)); clear h
    have hmf := hmf_any
    simp only [Array.append_assoc, List.append_toArray, List.nil_append, List.cons_append]
    go_enter Try.func58, Try.ntmps58
    go_wp2_with (go_at_call 50; (with_reducible refine HC.out.mono ?_); rintro e w1 ⟨rfl, h⟩; have H := Lib.hid h; clear h)
    exact ⟨rfl, .tuple #[], (by simp [results, Try.results58, go_sem]), rfl, H.out.more (by omega)⟩

set_option maxRecDepth 100000 in
set_option maxHeartbeats 1000000 in
theorem TreeCut_any (base cap : Int) (hb : I64 base) (hc : I64 cap) (k : Int) (hk : 0 ≤ k ∧ k < 18446744073709551616) (w : World) : Calls Try.prog 31 #[.int .i64 base, .int .i64 cap, .int .u64 k] w fun e w' => LibO w (treeP base cap) (codeTCut (treeP base cap) k).out e w' := by
  have hPA : (treeP base cap).Any := treeP_any hb hc
  have hbl : Below w.heap.size w (w.alloc (.cells #[.int .u64 k] 24)) := (Below.refl _ w).alloc (Nat.le_refl _) _
  have HB := Lib.hid hbl; clear hbl
  have HCk : Hid (Holds (w.alloc (.cells #[.int .u64 k] 24)) (w.heap.size) 24 [.int .u64 k]) := Lib.hid (Holds.new w 24 [.int .u64 k])
  have hmf := hmf_any
  have HA := Lib.hid (fun W => treeAt_any base cap W)
  cases hm : (treeP base cap).mayBe with
  | false =>
    have HW := Lib.hid (fun fn fs cs W => written_no (treeP base cap) hPA hm fn fs cs W)
    have hO : ∀ w', Below w.heap.size w w' → LibO w (treeP base cap) (codeTCut (treeP base cap) k).out (.returned (.tuple #[.slice none 0 0, .int .i64 130])) w' := fun w' h => ⟨_, _, rfl, h, fun e => (by rw [hm] at e; cases e), fun _ => ⟨rfl, rfl⟩⟩
    have HO := Lib.hid hO; clear hO hm hPA
    generalize (treeP base cap) = P at *
    go_enter Try.func31, Try.ntmps31
    go_wp2_with (first | (go_at_call 38; (with_reducible refine (HA.out _).mono ?_); rintro e V ⟨rfl, h⟩; have HQ := Lib.hid h; clear h) | (go_at_call 41; (with_reducible refine (HW.out _ _ _ _).mono ?_); rintro e V2 ⟨rfl, h⟩; have HR := Lib.hid h; clear h))
    have hfin := HO.out _ (HB.out.trans ((HQ.out.trans (HR.out.mono HQ.out.size)).mono HB.out.size))
    refine bodyPost_ret (results_tmp2 rfl _ _ _) rfl ?_
    exact hfin
  | true =>
    have HOk := Lib.hid (hPA.may hm)
    have hinv : Inv (codeTCut (treeP base cap) k) 120 := inv_TCut
    have HW := Lib.hid (fun (fs cs : Array Value) (g : FuncId) (W : World) (hF : Wr (treeP base cap) W 1000 (fun x => x.cut (treeP base cap) (fun y => y.aside (treeP base cap)) (fun y => y.unhang (treeP base cap)) k) g fs cs) => written_yes (treeP base cap) hPA hm W hF (by decide) (fun g hg => hinv.goes g hg))
    have hO : ∀ w' vv, Below w.heap.size w w' → w'.ownsRow w.heap.size 40 5 vv (codeTCut (treeP base cap) k).out.length (flatI (codeTCut (treeP base cap) k).out) → LibO w (treeP base cap) (codeTCut (treeP base cap) k).out (.returned (.tuple #[vv, .int .i64 0])) w' := fun w' vv h h2 => ⟨_, _, rfl, h, fun _ => ⟨rfl, h2⟩, fun e => (by rw [hm] at e; cases e)⟩
    have HO := Lib.hid hO; clear hO hm hPA hinv
    go_enter Try.func31, Try.ntmps31
    go_wp2_with (first | (go_at_call 38; (with_reducible refine (HA.out _).mono ?_); rintro e V ⟨rfl, h⟩; have HQ := Lib.hid h; clear h) | (go_at_call 41; (with_reducible refine (HW.out _ _ _ _ (wr_TreeCut _ (HOk.out) k hk _ _ (HCk.out.below HQ.out))).mono ?_); rintro e V2 ⟨v2, rfl, h, h2⟩; have HR := Lib.hid h; have HR2 := Lib.hid h2; clear h h2))
    have hfin := HO.out _ v2 (HB.out.trans ((HQ.out.trans (HR2.out.mono HQ.out.size)).mono HB.out.size)) (owns_mono HR.out (fun g e => Nat.le_trans (Nat.le_trans HB.out.size HQ.out.size) (owns_lt HR.out e).1))
    refine bodyPost_ret (results_tmp2 rfl _ _ _) rfl ?_
    exact hfin

theorem en_TreeLeast : En 56 := fun _ _ => by kernel_rfl
set_option maxRecDepth 100000 in
set_option maxHeartbeats 1000000 in
theorem wr_TreeLeast (P : Pl) (hP : P.Ok) (w : World) : Wr P w 1000 (fun x => x.least P) 56 #[] #[] where
  en := en_TreeLeast
  does := fun W b hb h => by
    have HC := Lib.hid (least_any h hP (by omega)); clear h
    have hmf := hmf_any
    simp only [Array.append_assoc, List.append_toArray, List.nil_append, List.cons_append]
    go_enter Try.func56, Try.ntmps56
    go_wp2_with (go_at_call 57; (with_reducible refine HC.out.mono ?_); rintro e w1 ⟨rfl, h⟩; have H := Lib.hid h; clear h)
    exact ⟨rfl, .tuple #[], (by simp [results, Try.results56, go_sem]), rfl, H.out.more (by omega)⟩

set_option maxRecDepth 100000 in
set_option maxHeartbeats 1000000 in
theorem TreeLeast_any (base cap : Int) (hb : I64 base) (hc : I64 cap) (w : World) : Calls Try.prog 30 #[.int .i64 base, .int .i64 cap] w fun e w' => LibO w (treeP base cap) (codeTLeast (treeP base cap)).out e w' := by
  have hPA : (treeP base cap).Any := treeP_any hb hc
  have hbl : Below w.heap.size w w := Below.refl _ w
  have HB := Lib.hid hbl; clear hbl
  have hmf := hmf_any
  have HA := Lib.hid (fun W => treeAt_any base cap W)
  cases hm : (treeP base cap).mayBe with
  | false =>
    have HW := Lib.hid (fun fn fs cs W => written_no (treeP base cap) hPA hm fn fs cs W)
    have hO : ∀ w', Below w.heap.size w w' → LibO w (treeP base cap) (codeTLeast (treeP base cap)).out (.returned (.tuple #[.slice none 0 0, .int .i64 130])) w' := fun w' h => ⟨_, _, rfl, h, fun e => (by rw [hm] at e; cases e), fun _ => ⟨rfl, rfl⟩⟩
    have HO := Lib.hid hO; clear hO hm hPA
    generalize (treeP base cap) = P at *
    go_enter Try.func30, Try.ntmps30
    go_wp2_with (first | (go_at_call 38; (with_reducible refine (HA.out _).mono ?_); rintro e V ⟨rfl, h⟩; have HQ := Lib.hid h; clear h) | (go_at_call 41; (with_reducible refine (HW.out _ _ _ _).mono ?_); rintro e V2 ⟨rfl, h⟩; have HR := Lib.hid h; clear h))
    have hfin := HO.out _ (HB.out.trans ((HQ.out.trans (HR.out.mono HQ.out.size)).mono HB.out.size))
    refine bodyPost_ret (results_tmp2 rfl _ _ _) rfl ?_
    exact hfin
  | true =>
    have HOk := Lib.hid (hPA.may hm)
    have hinv : Inv (codeTLeast (treeP base cap)) 120 := inv_TLeast
    have HW := Lib.hid (fun (fs cs : Array Value) (g : FuncId) (W : World) (hF : Wr (treeP base cap) W 1000 (fun x => x.least (treeP base cap)) g fs cs) => written_yes (treeP base cap) hPA hm W hF (by decide) (fun g hg => hinv.goes g hg))
    have hO : ∀ w' vv, Below w.heap.size w w' → w'.ownsRow w.heap.size 40 5 vv (codeTLeast (treeP base cap)).out.length (flatI (codeTLeast (treeP base cap)).out) → LibO w (treeP base cap) (codeTLeast (treeP base cap)).out (.returned (.tuple #[vv, .int .i64 0])) w' := fun w' vv h h2 => ⟨_, _, rfl, h, fun _ => ⟨rfl, h2⟩, fun e => (by rw [hm] at e; cases e)⟩
    have HO := Lib.hid hO; clear hO hm hPA hinv
    go_enter Try.func30, Try.ntmps30
    go_wp2_with (first | (go_at_call 38; (with_reducible refine (HA.out _).mono ?_); rintro e V ⟨rfl, h⟩; have HQ := Lib.hid h; clear h) | (go_at_call 41; (with_reducible refine (HW.out _ _ _ _ (wr_TreeLeast _ (HOk.out) _)).mono ?_); rintro e V2 ⟨v2, rfl, h, h2⟩; have HR := Lib.hid h; have HR2 := Lib.hid h2; clear h h2))
    have hfin := HO.out _ v2 (HB.out.trans ((HQ.out.trans (HR2.out.mono HQ.out.size)).mono HB.out.size)) (owns_mono HR.out (fun g e => Nat.le_trans (Nat.le_trans HB.out.size HQ.out.size) (owns_lt HR.out e).1))
    refine bodyPost_ret (results_tmp2 rfl _ _ _) rfl ?_
    exact hfin

end Go.Proofs.Ythjbcpgncnchoaa
