/- Paths and memories as parts; what stays so of a path; a memory's answer. Conditions: those stated in each theorem. -/
import Derived.Test.YtgdfiggloifncaaSoftI
import Derived.Test.YtgdfiggloifncaaSepA
namespace Go.Proofs.Ytgdfiggloifncaa
open Go.RowKit Go.BigFrame Go.Maps Go.ChangeMaps

/-! ### What stays so -/
def W64 (n : Int) : Prop := (Lit.int .u64 n).wf = true
def I64 (n : Int) : Prop := (Lit.int .i64 n).wf = true
theorem w64_wrap (n : Int) : W64 (IntKind.u64.wrap n) := by
  have h : IntKind.u64.wrap n = n % 18446744073709551616 := by simp [IntKind.wrap, IntKind.bits, IntKind.signed]
  rw [h]
  exact WalkArith.wf_u64 (by omega)
theorem w64_0 : W64 0 := by unfold W64; decide
theorem i64_0 : I64 0 := by unfold I64; decide
theorem i64_1 : I64 1 := by unfold I64; decide
theorem i64_2 : I64 2 := by unfold I64; decide
theorem i64_3 : I64 3 := by unfold I64; decide
theorem fitl_nil : FitL [] := fun x hx => by cases hx
def Th.ok : Th → Prop
  | .fetch a => I64 a ∧ 8 ≤ a
  | .sign => True
def At.ok : At → Prop
  | .beginCas n => W64 n
  | .loadWord a => I64 a ∧ 8 ≤ a
  | .loadSeq a y => (I64 a ∧ 8 ≤ a) ∧ W64 y
  | .checkSeq t => t.ok
  | .check g l t => W64 g ∧ FitL l ∧ t.ok
  | .back l => FitL l
  | .leaveN how => I64 how
  | .leaveCas how n => I64 how ∧ W64 n
  | _ => True
structure PV.ok (x : PV) : Prop where
  snap : W64 x.snap
  val : W64 x.val
  ended : I64 x.ended
  r : FitL x.log.r
  w : FitL x.log.w
  at_ : x.at_.ok
theorem PV.ok_zero : PV.zero.ok := ⟨w64_0, w64_0, i64_0, fitl_nil, fitl_nil, trivial⟩
section
variable {x : PV}
theorem PV.ok.set (h : x.ok) {a : At} (ha : a.ok) : ({ x with at_ := a } : PV).ok := ⟨h.snap, h.val, h.ended, h.r, h.w, ha⟩
theorem fitl_tail {y : Pr} {l : List Pr} (h : FitL (y :: l)) : FitL l := fun z hz => h z (by simp [hz])
theorem PV.give_ok (h : x.ok) {v : Int} (hv : W64 v) (ok : Bool) : (x.give v ok).ok := by
  have ha := h.at_
  unfold PV.give
  cases hx : x.at_ with
  | no => exact h
  | beginN => exact h.set hv
  | beginCas n => cases ok <;> exact h.set trivial
  | beginSeq =>
    simp only
    split
    · exact ⟨hv, h.val, h.ended, h.r, h.w, trivial⟩
    · exact h
  | loadWord a => rw [hx] at ha; exact h.set ⟨ha, hv⟩
  | loadSeq a y =>
    rw [hx] at ha
    simp only
    split
    · exact h.set ha.1
    · split
      · exact h.set i64_2
      · exact ⟨h.snap, ha.2, h.ended, readL_fit h.r ha.1.1 ha.2, h.w, trivial⟩
  | checkSeq t =>
    rw [hx] at ha
    simp only
    split
    · exact h.set ⟨hv, h.r, ha⟩
    · exact h
  | check g l t =>
    rw [hx] at ha
    cases l with
    | nil =>
      simp only
      split
      · exact h.set ha.2.2
      · refine ⟨ha.1, h.val, h.ended, h.r, h.w, ?_⟩
        cases t with
        | fetch a => exact ha.2.2
        | sign => trivial
    | cons y l =>
      simp only
      split
      · exact h.set i64_2
      · exact h.set ⟨ha.1, fitl_tail ha.2.1, ha.2.2⟩
  | take =>
    cases ok
    · exact h.set trivial
    · exact ⟨h.snap, h.val, h.ended, h.r, h.w, h.w⟩
  | back l =>
    rw [hx] at ha
    cases l with
    | nil => exact ⟨h.snap, h.val, h.ended, h.r, h.w, i64_1⟩
    | cons y l => exact h.set (fitl_tail ha)
  | leaveN how => rw [hx] at ha; exact h.set ⟨ha, hv⟩
  | leaveCas how n =>
    rw [hx] at ha
    cases ok
    · exact h.set ha.1
    · exact ⟨h.snap, h.val, ha.1, h.r, h.w, trivial⟩
theorem valL_fit {l : List Pr} (h : FitL l) (a : Int) : W64 (valL l a) := by
  unfold valL
  cases hp : posL l a with
  | none => exact w64_0
  | some i =>
    have hi := posL_lt hp
    simp only [List.getD, List.getElem?_eq_getElem hi, Option.getD_some]
    exact (h _ (List.getElem_mem hi)).2
theorem PV.begin_ok (h : x.ok) : x.begin.ok := by
  unfold PV.begin
  split
  · exact h
  · exact ⟨h.snap, w64_0, i64_0, fitl_nil, fitl_nil, trivial⟩
theorem PV.errA_no {a : Int} (h : x.errA a = 0) : x.at_ = .no ∧ x.live = true ∧ 8 ≤ a := by
  unfold PV.errA at h
  split at h
  · rename_i e; exact absurd h e
  · rename_i e
    have := shut_no (Classical.byContradiction e)
    refine ⟨this.1, this.2, ?_⟩
    split at h
    · cases h
    · omega
theorem PV.load_ok (h : x.ok) {a : Int} (ha : I64 a) : (x.load a).ok := by
  unfold PV.load
  by_cases he : x.errA a = 0
  · rw [if_neg (by simpa using he)]
    split
    · exact ⟨h.snap, valL_fit h.w a, h.ended, h.r, h.w, h.at_⟩
    · exact h.set ⟨ha, (PV.errA_no he).2.2⟩
  · rw [if_pos he]; exact h
theorem PV.store_ok (h : x.ok) {a v : Int} (ha : I64 a) (hv : W64 v) : (x.store a v).ok := by
  unfold PV.store
  split
  · exact h
  · split
    · exact h.set i64_2
    · exact ⟨h.snap, h.val, h.ended, h.r, writeL_fit h.w ha hv, h.at_⟩
theorem PV.commit_ok (h : x.ok) : x.commit.ok := by
  unfold PV.commit
  split
  · exact h
  · split
    · exact h.set i64_1
    · exact h.set trivial
theorem PV.quit_ok (h : x.ok) : x.quit.ok := by
  unfold PV.quit
  split
  · exact h
  · exact h.set i64_3
theorem PV.req_ok (h : x.ok) : I64 x.req.addr ∧ W64 x.req.value ∧ W64 x.req.old := by
  have ha := h.at_
  have z : I64 0 ∧ W64 0 := ⟨i64_0, w64_0⟩
  have o : I64 1 := i64_1
  unfold PV.req
  cases hx : x.at_ with
  | no | beginSeq => exact ⟨z.1, z.2, z.2⟩
  | beginN | leaveN how => exact ⟨o, z.2, z.2⟩
  | loadSeq a y | checkSeq t => exact ⟨z.1, z.2, z.2⟩
  | beginCas n => rw [hx] at ha; exact ⟨o, w64_wrap _, ha⟩
  | loadWord a => rw [hx] at ha; exact ⟨ha.1, z.2, z.2⟩
  | check g l t =>
    rw [hx] at ha
    cases l with
    | nil => exact ⟨z.1, z.2, z.2⟩
    | cons y l => exact ⟨(ha.2.1 y (by simp)).1, z.2, z.2⟩
  | take => exact ⟨z.1, w64_wrap _, h.snap⟩
  | back l =>
    rw [hx] at ha
    cases l with
    | nil => exact ⟨z.1, w64_wrap _, z.2⟩
    | cons y l => exact ⟨(ha y (by simp)).1, (ha y (by simp)).2, z.2⟩
  | leaveCas how n => rw [hx] at ha; exact ⟨o, w64_wrap _, ha.2⟩
theorem PV.give_pts (x : PV) (v : Int) (ok : Bool) : x.pts ≤ (x.give v ok).pts ∧ (x.give v ok).pts ≤ x.pts + 1 := by
  unfold PV.give
  cases hx : x.at_ with
  | check g l t => cases l <;> ((try simp only); split <;> (try simp only) <;> omega)
  | back l => cases l <;> ((try simp only); omega)
  | _ => (try simp only) <;> (try split) <;> (try split) <;> (try simp only) <;> omega
theorem PV.load_pts (x : PV) (a : Int) : (x.load a).pts = x.pts := by unfold PV.load; split; rfl; split <;> rfl
theorem PV.store_pts (x : PV) (a v : Int) : (x.store a v).pts = x.pts := by unfold PV.store; split; rfl; split <;> rfl
theorem PV.begin_pts (x : PV) : x.begin.pts = x.pts := by unfold PV.begin; split <;> rfl
theorem PV.commit_pts (x : PV) : x.commit.pts = x.pts := by unfold PV.commit; split; rfl; split <;> rfl
theorem PV.quit_pts (x : PV) : x.quit.pts = x.pts := by unfold PV.quit; split <;> rfl
end

/-! ### Parts -/
def pathP (p : Nat) (x : PV) : Part := ⟨fun w T => SAt w T p x, fun h ht hC => SAt.frame h ht hC, fun h hT => SAt.more h hT⟩

/-- A memory's words. -/
def IsMm (D : DataW Unit) (m : Int → Int) : Prop := IsMap D ∧ ∀ a, D.atKey (.int .i64 a) (.lit (.int .u64 0)) = .lit (.int .u64 (m a))
def upd (m : Int → Int) (a v : Int) : Int → Int := fun b => if b = a then v else m b
theorem isMm_nil : IsMm (.map []) (fun _ => 0) := ⟨isMap_empty, fun _ => rfl⟩
theorem IsMm.put {D : DataW Unit} {m : Int → Int} (h : IsMm D m) (a v : Int) : IsMm (D.put (.int .i64 a) (.lit (.int .u64 v))) (upd m a v) := by
  refine ⟨h.1.put _ _, fun b => ?_⟩
  unfold upd
  by_cases hb : b = a
  · subst hb
    rw [if_pos rfl]
    exact atKey_put_same h.1 (by simp [WideAt.IsKeyLit]) _ _
  · rw [if_neg hb, atKey_put_other (fun e => hb (by cases e; rfl))]
    exact h.2 b
def MmAt (w : World) (b : Nat) (c : Nat) (m : Int → Int) : Prop := ∃ D, w.ownsMap Try.prog 3 (plainElem (H := Unit) Try.prog 26) b c D ∧ IsMm D m
theorem MmAt.same {w w' : World} {b c : Nat} {m : Int → Int} (h : MmAt w b c m) (e : w'.heap[b]? = w.heap[b]?) : MmAt w' b c m := by
  obtain ⟨D, ⟨es, clock, hb, r⟩, h2⟩ := h
  exact ⟨D, ⟨es, clock, e.trans hb, r⟩, h2⟩
theorem MmAt.lt {w : World} {b c : Nat} {m : Int → Int} (h : MmAt w b c m) : b < w.heap.size := by obtain ⟨D, h1, h2⟩ := h; exact h1.lt
theorem MmAt.made (w : World) : MmAt (w.alloc (.map #[] 0)) w.heap.size 0 (fun _ => 0) := ⟨_, World.ownsMap_made w _ _ _, isMm_nil⟩
theorem MmAt.mono {w : World} {b c d : Nat} {m : Int → Int} (h : MmAt w b c m) (hd : c ≤ d) : MmAt w b d m := by obtain ⟨D, h1, h2⟩ := h; exact ⟨D, h1.mono hd, h2⟩
def memP (b c : Nat) (m : Int → Int) : Part := ⟨fun w T => T b ∧ MmAt w b c m, fun h ht hC => ⟨h.1, h.2.same (ht.block _ h.2.lt (hC _ h.1))⟩, fun h hT => ⟨hT _ h.2.lt h.1, h.2⟩⟩

theorem Try.zeroU (w : World) : (zeroValue 26).run Try.prog w = .ok (.int .u64 0) w := by kernel_rfl
section
variable {w : World} {ops : Array Oper} {rest : List Oper} {o : Oper} {a : Act} {Q : Exit → Act → World → Prop} {b c : Nat} {m : Int → Int}
/-- What memory has. -/
theorem wpList_mm (hg : o.guard = none) (mo x : Operand) (hop : o.op = Op.lookup 33 mo x false) (b c : Nat) (m : Int → Int) (ad : Int) (hm : a.eval mo = .map (some b)) (hx : a.eval x = .int .i64 ad) (h : MmAt w b c m) (hw : I64 ad)
    (hK : W64 (m ad) → wpList Try.prog ops Q rest (a.put o.dst (.int .u64 (m ad))) w) : wpList Try.prog ops Q (o :: rest) a w := by
  obtain ⟨D, h1, h3⟩ := h
  refine wpList_lookup_own_int w hg mo x 33 hop 3 26 .u64 Try.keyI Try.underlying33 Try.underlying26 (Try.zeroU w) b c D hm h1 _ _ hx (keyOf_int_mk Try.underlying3 hw) ?_
  intro z hat hz
  rw [h3.2 ad] at hat
  cases hat
  exact hK hz
/-- A word is put. -/
theorem wpList_mput (hg : o.guard = none) (mo x v : Operand) (hop : o.op = Op.mapUpdate 33 mo x v ∨ o.op = Op.insert 33 mo x v) (b c : Nat) (m : Int → Int) (ad y : Int) (hm : a.eval mo = .map (some b)) (hx : a.eval x = .int .i64 ad) (hv : a.eval v = .int .u64 y) (h : MmAt w b c m) (hw : I64 ad) (hy : W64 y) (hc : c ≤ 1000000)
    (hK : ∀ w', MmAt w' b (c + 1) (upd m ad y) → Tch (· = b) w w' → wpList Try.prog ops Q rest (a.put o.dst undef) w') : wpList Try.prog ops Q (o :: rest) a w := by
  obtain ⟨D, h1, h3⟩ := h
  refine wpList_plain hg fun K' hK' => ?_
  obtain ⟨w', hrun, r1, r2⟩ := h1.update Try.keyI Try.underlying33 (by unfold maxLen; omega) (keyOf_int_mk Try.underlying3 hw) (plainElem_int Try.underlying26 hy)
  unfold Oper.wp
  rcases hop with hop | hop
  · simp [execOp, hop, hm, hx, hv, hrun, Result.andThen]
    exact hK' _ _ (hK w' ⟨_, r1, h3.put ad y⟩ ((Tch.refl _ w).grown r2 (fun k e => .inl (by cases e; rfl))))
  · simp [execOp, hop, hm, hx, hv, hrun, Result.andThen]
    exact hK' _ _ (hK w' ⟨_, r1, h3.put ad y⟩ ((Tch.refl _ w).grown r2 (fun k e => .inl (by cases e; rfl))))
end

/-! ### A memory's answer -/
def okV (m : Int → Int) (r : Rq) : Bool := decide (r.op = 3) && decide (m r.addr = r.old)
def memV (m : Int → Int) (r : Rq) : Int → Int := if r.op = 2 ∨ (r.op = 3 ∧ m r.addr = r.old) then upd m r.addr r.value else m

set_option maxRecDepth 100000 in
set_option maxHeartbeats 1000000 in
theorem answer_store {w : World} {b c : Nat} {m : Int → Int} (h : MmAt w b c m) (hc : c ≤ 1000000) (ra rv rd : Int) (ha : I64 ra) (hv : W64 rv)  : Calls Try.prog 19 #[.map (some b), .agg #[.int .i64 2, .int .i64 ra, .int .u64 rv, .int .u64 rd]] w fun e w' => e = .returned (.tuple #[.int .u64 (m ra), .bool false]) ∧ MmAt w' b (c + 1) (upd m ra rv) ∧ Tch (· = b) w w' := by
  have H := Lib.hid h
  have hlt := h.lt
  have HA := Lib.hid ha
  have HV := Lib.hid hv
  have hb0 : ∀ L : List Value, Below w.heap.size w (w.alloc (.cells L.toArray 48)) := fun L => (Below.refl _ w).alloc (Nat.le_refl _) _
  clear h ha hv
  go_enter Try.func19, Try.ntmps19
  go_wp2_with (first | (at_lookup; refine wpList_mm rfl _ _ rfl b c m ra rfl rfl (H.out.same ((hb0 _).block b hlt)) HA.out ?_; intro hw) | (at_mapUpdate; refine wpList_mput rfl _ _ _ (.inl rfl) b c m ra rv rfl rfl rfl (H.out.same ((hb0 _).block b hlt)) HA.out HV.out hc ?_; intro w2 h2 ht2; have q0 := (World.cell?_of_block (a := ⟨w.heap.size, 0, none⟩) (ht2.block w.heap.size (by simp) (by omega))).trans ((Holds.new w 48 [.int .i64 2, .int .i64 ra, .int .u64 rv, .int .u64 rd]).cell (i := 0) rfl); have H2 := Lib.hid h2; have HT2 := Lib.hid ht2; clear h2 ht2))
  go_ret2
  exact ⟨rfl, H2.out, (Tch.of_idle (hb0 _)).trans HT2.out⟩

set_option maxRecDepth 100000 in
set_option maxHeartbeats 1000000 in
theorem answer_load {w : World} {b c : Nat} {m : Int → Int} (h : MmAt w b c m) (_hc : c ≤ 1000000) (ra rv rd : Int) (ha : I64 ra) (hv : W64 rv) (op : Int) (h2 : op ≠ 2) (h3 : op ≠ 3) : Calls Try.prog 19 #[.map (some b), .agg #[.int .i64 op, .int .i64 ra, .int .u64 rv, .int .u64 rd]] w fun e w' => e = .returned (.tuple #[.int .u64 (m ra), .bool false]) ∧ MmAt w' b (c + 1) m ∧ Tch (· = b) w w' := by
  have H := Lib.hid h
  have hlt := h.lt
  have HA := Lib.hid ha
  have HV := Lib.hid hv
  have hb0 : ∀ L : List Value, Below w.heap.size w (w.alloc (.cells L.toArray 48)) := fun L => (Below.refl _ w).alloc (Nat.le_refl _) _
  have d2 : decide (op = 2) = false := by simpa using h2
  have d3 : decide (op = 3) = false := by simpa using h3
  clear h ha hv
  go_enter Try.func19, Try.ntmps19
  go_wp2_with (first | (at_lookup; refine wpList_mm rfl _ _ rfl b c m ra rfl rfl (H.out.same ((hb0 _).block b hlt)) HA.out ?_; intro hw))
  go_ret2
  exact ⟨rfl, (H.out.same ((hb0 _).block b hlt)).mono (Nat.le_succ _), Tch.of_idle (hb0 _)⟩

set_option maxRecDepth 100000 in
set_option maxHeartbeats 1000000 in
theorem answer_cas_no {w : World} {b c : Nat} {m : Int → Int} (h : MmAt w b c m) (_hc : c ≤ 1000000) (ra rv rd : Int) (ha : I64 ra) (hv : W64 rv) (hn : m ra ≠ rd) : Calls Try.prog 19 #[.map (some b), .agg #[.int .i64 3, .int .i64 ra, .int .u64 rv, .int .u64 rd]] w fun e w' => e = .returned (.tuple #[.int .u64 (m ra), .bool false]) ∧ MmAt w' b (c + 1) m ∧ Tch (· = b) w w' := by
  have H := Lib.hid h
  have hlt := h.lt
  have HA := Lib.hid ha
  have HV := Lib.hid hv
  have hb0 : ∀ L : List Value, Below w.heap.size w (w.alloc (.cells L.toArray 48)) := fun L => (Below.refl _ w).alloc (Nat.le_refl _) _
  have d2 : decide (m ra = rd) = false := by simpa using hn
  clear h ha hv
  go_enter Try.func19, Try.ntmps19
  go_wp2_with (first | (at_lookup; refine wpList_mm rfl _ _ rfl b c m ra rfl rfl (H.out.same ((hb0 _).block b hlt)) HA.out ?_; intro hw))
  go_ret2
  exact ⟨rfl, (H.out.same ((hb0 _).block b hlt)).mono (Nat.le_succ _), Tch.of_idle (hb0 _)⟩

set_option maxRecDepth 100000 in
set_option maxHeartbeats 1000000 in
theorem answer_cas_yes {w : World} {b c : Nat} {m : Int → Int} (h : MmAt w b c m) (hc : c ≤ 1000000) (ra rv rd : Int) (ha : I64 ra) (hv : W64 rv) (hn : m ra = rd) : Calls Try.prog 19 #[.map (some b), .agg #[.int .i64 3, .int .i64 ra, .int .u64 rv, .int .u64 rd]] w fun e w' => e = .returned (.tuple #[.int .u64 (m ra), .bool true]) ∧ MmAt w' b (c + 1) (upd m ra rv) ∧ Tch (· = b) w w' := by
  have H := Lib.hid h
  have hlt := h.lt
  have HA := Lib.hid ha
  have HV := Lib.hid hv
  have hb0 : ∀ L : List Value, Below w.heap.size w (w.alloc (.cells L.toArray 48)) := fun L => (Below.refl _ w).alloc (Nat.le_refl _) _
  subst hn
  have d2 : decide (m ra = m ra) = true := by simp
  clear h ha hv
  go_enter Try.func19, Try.ntmps19
  go_wp2_with (first | (at_lookup; refine wpList_mm rfl _ _ rfl b c m ra rfl rfl (H.out.same ((hb0 _).block b hlt)) HA.out ?_; intro hw) | (at_mapUpdate; refine wpList_mput rfl _ _ _ (.inl rfl) b c m ra rv rfl rfl rfl (H.out.same ((hb0 _).block b hlt)) HA.out HV.out hc ?_; intro w2 h2 ht2; have q0 := (World.cell?_of_block (a := ⟨w.heap.size, 0, none⟩) (ht2.block w.heap.size (by simp) (by omega))).trans ((Holds.new w 48 [.int .i64 3, .int .i64 ra, .int .u64 rv, .int .u64 (m ra)]).cell (i := 0) rfl); have H2 := Lib.hid h2; have HT2 := Lib.hid ht2; clear h2 ht2))
  go_ret2
  exact ⟨rfl, H2.out, (Tch.of_idle (hb0 _)).trans HT2.out⟩

theorem answer_any {w : World} {b c : Nat} {m : Int → Int} (h : MmAt w b c m) (hc : c ≤ 1000000) (r : Rq) (ha : I64 r.addr) (hv : W64 r.value) : Calls Try.prog 19 #[.map (some b), .agg r.cells.toArray] w fun e w' => e = .returned (.tuple #[.int .u64 (m r.addr), .bool (okV m r)]) ∧ MmAt w' b (c + 1) (memV m r) ∧ Tch (· = b) w w' := by
  obtain ⟨op, ra, rv, rd⟩ := r
  unfold okV memV
  by_cases h2 : op = 2
  · subst h2
    simpa [Rq.cells] using answer_store h hc ra rv rd ha hv
  · by_cases h3 : op = 3
    · subst h3
      by_cases hn : m ra = rd
      · simpa [hn, Rq.cells] using answer_cas_yes h hc ra rv rd ha hv hn
      · simpa [hn, Rq.cells] using answer_cas_no h hc ra rv rd ha hv hn
    · simpa [h2, h3, Rq.cells] using answer_load h hc ra rv rd ha hv op h2 h3

end Go.Proofs.Ytgdfiggloifncaa
