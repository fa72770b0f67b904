/- NodeMarks: the walk. Conditions: those stated in each theorem. -/
import Derived.Test.YtddajnpichchfaaNodeV
import Derived.Test.YtddajnpichchfaaNodeO
namespace Go.Proofs.Ytddajnpichchfaa
open Go.RowKit Go.BigFrame

theorem letGo_len (n : Nd) (e : Ent) : (n.letGo e).2.length ≤ 1 := by unfold Nd.letGo; split <;> simp
theorem nfill_len (n : Nd) (l st : Int) (d : L8) : (n.fill l st d).2.length ≤ 1 := by
  unfold Nd.fill; split
  · exact letGo_len _ _
  · exact letGo_len _ _
theorem ask_len (n : Nd) (k l : Int) : (n.ask k l).2.length ≤ 1 := by unfold Nd.ask; split <;> simp
theorem take_len (n : Nd) (m : MsgV) : (n.take m).2.length ≤ 2 := by
  have hG : ∀ st, (n.hearG m st).2.length ≤ 2 := fun st => by
    unfold Nd.hearG; dsimp only; split
    · simp
    · have := nfill_len { n with out := MsgV.zero } m.line st m.data
      simp; omega
  unfold Nd.take
  split
  · unfold Nd.hearInv; split <;> simp
  split
  · unfold Nd.hearRS; split <;> simp
  split
  · unfold Nd.hearRM; split <;> simp
  split
  · exact hG _
  split
  · exact hG _
  · simp
theorem step_len (n : Nd) (x : StepN) : (n.step x).2.length ≤ 2 := by
  unfold Nd.step
  split
  · dsimp only; unfold Nd.load; split
    · simp
    split
    · exact Nat.le_trans (ask_len _ _ _) (by omega)
    · simp
  split
  · dsimp only; unfold Nd.store; split
    · simp
    split
    · exact Nat.le_trans (ask_len _ _ _) (by omega)
    · simp
  split
  · dsimp only; unfold Nd.cas; split
    · simp
    split
    · simp
    split
    · exact Nat.le_trans (ask_len _ _ _) (by omega)
    split
    · simp
    · simp
  split
  · simp
  split
  · simp
  split
  · simp
  split
  · dsimp only; unfold Nd.hear; split
    · simp
    · exact take_len _ _
  split
  · dsimp only; unfold Nd.drop; split
    · simp
    split
    · simp
    · dsimp only; split
      · exact Nat.le_trans (letGo_len _ _) (by omega)
      · exact Nat.le_trans (letGo_len _ _) (by omega)
  · simp
/-- Rows as they are read. -/
def RowE (W : World) (ad : Option Addr) (es : List Ent) : Prop := ∀ i e, es[i]? = some e → ∃ g, ad = some ⟨g, 0, none⟩ ∧ ∀ j v, j < 21 → e.cells[j]? = some v → W.cell? ⟨g, i * 21 + j, none⟩ = some v
def RowM (W : World) (ad : Option Addr) (ms : List MsgV) : Prop := ∀ i m, ms[i]? = some m → ∃ g, ad = some ⟨g, 0, none⟩ ∧ ∀ j v, j < 11 → m.cells[j]? = some v → W.cell? ⟨g, i * 11 + j, none⟩ = some v
theorem rows_getM : ∀ (es : List MsgV) (j k : Nat) (e : MsgV), es[j]? = some e → k < 11 → (es.flatMap MsgV.cells)[j * 11 + k]? = e.cells[k]?
  | [], j, _, _, h, _ => by simp at h
  | a :: es, 0, k, e, h, hk => by
    simp only [List.getElem?_cons_zero, Option.some.injEq] at h
    subst h
    rw [List.flatMap_cons, Nat.zero_mul, Nat.zero_add, List.getElem?_append_left (by rw [MsgV.len]; exact hk)]
  | a :: es, j + 1, k, e, h, hk => by
    simp only [List.getElem?_cons_succ] at h
    rw [List.flatMap_cons, List.getElem?_append_right (by rw [MsgV.len]; omega), MsgV.len, show (j + 1) * 11 + k - 11 = j * 11 + k from by omega]
    exact rows_getM es j k e h hk
section
variable {w0 w w' : World} {a p S : Nat} {bs : List Nat} {ways : Nat} {n : Nd} {G : List (Nat × List Value)}
theorem NSt.rowE (h : NSt w0 w a p S bs ways n G) {v : Value} {es : List Ent} (hs : SlE v es) (hG : ∀ x ∈ rowsE v es, x ∈ G) : ∃ ad cap, v = .slice ad es.length cap ∧ RowE w ad es := by
  rcases hs with ⟨rfl, rfl⟩ | ⟨g, cap, rfl⟩
  · exact ⟨none, 0, rfl, fun i e he => by simp at he⟩
  · exact ⟨some ⟨g, 0, none⟩, cap, rfl, fun i e he => ⟨g, rfl, fun j v hj hv => row_ent (h.rows (g, es.flatMap Ent.cells) (hG _ (by simp [rowsE]))).2 he hj hv⟩⟩
theorem NSt.rowM (h : NSt w0 w a p S bs ways n G) {v : Value} {ms : List MsgV} (hs : SlM v ms) (hG : ∀ x ∈ rowsM v ms, x ∈ G) : ∃ ad cap, v = .slice ad ms.length cap ∧ RowM w ad ms := by
  rcases hs with ⟨rfl, rfl⟩ | ⟨g, cap, rfl⟩
  · exact ⟨none, 0, rfl, fun i e he => by simp at he⟩
  · refine ⟨some ⟨g, 0, none⟩, cap, rfl, fun i m hm => ⟨g, rfl, fun j v hj hv => ?_⟩⟩
    have := (h.rows (g, ms.flatMap MsgV.cells) (hG _ (by simp [rowsM]))).2 (i * 11 + j) v (by rw [rows_getM ms i j m hm hj]; exact hv)
    rwa [Nat.zero_add] at this
theorem clean_of {k : Nat} (h : NI k ways n) (hv : n.live = false) : cleanL n.all = true := by
  unfold cleanL
  rw [List.all_eq_true]
  intro e he
  have := (h.all_marks he).1 hv
  simp [this.1, this.2]
theorem NSt.drewN (h : NSt w0 w a p S bs ways n G) (q : Nat) : NSt w0 (w.drewN q) a p S bs ways n G := h.idle (below_drewN (Below.refl _ _) q)
theorem NSt.liveQ (h : NSt w0 w a p S bs ways n G) (q : Nat) : Calls Try.prog 18 #[.pointer (some ⟨a, 0, none⟩)] (w.drewN q) fun e w' => e = .returned (.bool n.live) ∧ w' = w.drewN q :=
  (live_st (h.drewN q)).mono fun _ _ hh => ⟨hh.1, hh.2.symm⟩
theorem NSt.rowEs (h : NSt w0 w a p S bs ways n G) {ad : Option Addr} {l cap : Nat} {es : List Ent} (hs : SlE (.slice ad l cap) es) (hG : ∀ x ∈ rowsE (.slice ad l cap) es, x ∈ G) : RowE w ad es := by
  obtain ⟨ad', cap', heq, hr⟩ := h.rowE hs hG
  cases heq
  exact hr
theorem NSt.rowMs (h : NSt w0 w a p S bs ways n G) {ad : Option Addr} {l cap : Nat} {es : List MsgV} (hs : SlM (.slice ad l cap) es) (hG : ∀ x ∈ rowsM (.slice ad l cap) es, x ∈ G) : RowM w ad es := by
  obtain ⟨ad', cap', heq, hr⟩ := h.rowM hs hG
  cases heq
  exact hr
theorem clean_any {v : Value} {es : List Ent} (h : NSt w0 w a p S bs ways n G) (hs : SlE v es) (hG : ∀ x ∈ rowsE v es, x ∈ G) (hl : es.length ≤ 64) : Calls Try.prog 31 #[v] w fun e w' => e = .returned (.bool (cleanL es)) ∧ w = w' := by
  rcases hs with ⟨rfl, rfl⟩ | ⟨g, cap, rfl⟩
  · exact clean_none w
  · exact clean_row g cap es w (h.rows (g, es.flatMap Ent.cells) (hG _ (by simp [rowsE]))).2 hl
end

/-- The steps lie there. -/
def StepsAtN (w : World) (q c : Nat) (xs : List StepN) : Prop := q < w.heap.size ∧ ∀ k x, xs[k]? = some x → w.rangeAt q (c + k * 15) x.cells
theorem StepsAtN.below {w w' : World} {q c B : Nat} {xs : List StepN} (h : StepsAtN w q c xs) (hb : Below B w w') (hB : w.heap.size ≤ B) : StepsAtN w' q c xs :=
  ⟨Nat.lt_of_lt_of_le h.1 hb.size, fun k x hx i v hi => by
    rw [World.cell?_of_block (a := ⟨q, c + k * 15 + i, none⟩) (hb.block q (Nat.lt_of_lt_of_le h.1 hB))]
    exact h.2 k x hx i v hi⟩
@[go_sem ↓ high] theorem eq_line_same (a0 a1 a2 a3 a4 a5 a6 a7 : Int) (w : World) : (Op.equalIn 10000 36 (.agg #[.int .u64 a0, .int .u64 a1, .int .u64 a2, .int .u64 a3, .int .u64 a4, .int .u64 a5, .int .u64 a6, .int .u64 a7]) (.agg #[.int .u64 a0, .int .u64 a1, .int .u64 a2, .int .u64 a3, .int .u64 a4, .int .u64 a5, .int .u64 a6, .int .u64 a7])).run Try.prog w = .ok true w := by
  have := eq_lines ⟨a0, a1, a2, a3, a4, a5, a6, a7⟩ ⟨a0, a1, a2, a3, a4, a5, a6, a7⟩ 9998 w
  rw [show decide ((⟨a0, a1, a2, a3, a4, a5, a6, a7⟩ : L8) = ⟨a0, a1, a2, a3, a4, a5, a6, a7⟩) = true from decide_eq_true rfl] at this
  exact this

set_option maxRecDepth 100000 in
set_option maxHeartbeats 8000000 in
theorem marks_ok (lines cores : Int) (sets ways : Nat) (xs : List StepN) (q c cl : Nat) (w : World) (h2 : 0 < cores) (h3 : cores ≤ 4) (h4 : 2 ≤ lines) (h5 : lines ≤ 64) (s1 : 1 ≤ sets) (s8 : sets ≤ 8) (w1 : 1 ≤ ways) (w4 : ways ≤ 4) (hl : xs.length ≤ 400)
    (hx : StepsAtN w q c xs) (hn : ∀ x ∈ xs, x.n ≤ 9223372036854775807) :
    Calls Try.prog 5 #[.agg #[.int .i64 lines, .int .i64 cores, .int .i64 sets, .int .i64 ways], .slice (some ⟨q, c, none⟩) xs.length cl] w fun e w' => e = .returned (.bool true) ∧ Below w.heap.size w w' := by
  have HX := Lib.hid hx; clear hx
  have HN := Lib.hid hn; clear hn
  obtain ⟨L, rfl⟩ := Int.eq_ofNat_of_zero_le (show 0 ≤ lines by omega)
  have HNew := Lib.hid (fun W => nnew_ok 0 L cores sets ways W (by omega) h2 h3 h4 h5 s1 s8 w1 w4)
  have HNI := Lib.hid (ni_new 0 L sets ways s1)
  have hL64 : L ≤ 64 := by omega
  clear h2 h3 h4 h5 s1 s8 w1 w4
  go_enter Try.func5, Try.ntmps5
  go_wp2_with fail
  refine (nalive_ok _).mono ?_
  rintro e wa ⟨rfl, hba⟩
  have c0 : wa.cell? ⟨w.heap.size, 0, none⟩ = some (.int .i64 L) := by rw [hba.cell (p := ⟨w.heap.size, 0, none⟩) (by simp)]; simp
  have c1 : wa.cell? ⟨w.heap.size, 1, none⟩ = some (.int .i64 cores) := by rw [hba.cell (p := ⟨w.heap.size, 1, none⟩) (by simp)]; simp
  have c2 : wa.cell? ⟨w.heap.size, 2, none⟩ = some (.int .i64 sets) := by rw [hba.cell (p := ⟨w.heap.size, 2, none⟩) (by simp)]; simp
  have c3 : wa.cell? ⟨w.heap.size, 3, none⟩ = some (.int .i64 ways) := by rw [hba.cell (p := ⟨w.heap.size, 3, none⟩) (by simp)]; simp
  have hbw : Below w.heap.size w wa := ((Below.refl _ w).alloc (Nat.le_refl _) _).trans (hba.mono (by simp))
  have Hbw := Lib.hid hbw; clear hbw hba
  go_wp2_with fail
  refine (HNew.out wa).mono ?_
  rintro e wb ⟨a, p, S, bs, rfl, hbl, hs⟩
  clear c0 c1 c2 c3
  have H1 : Hid (NSt w wb a p S bs ways (Nd.new 0 L (newSets sets ways)) []) := Lib.hid (hs.rebase Hbw.out)
  clear hs hbl HNew Hbw
  generalize hnd : Nd.new 0 (L : Int) (newSets sets ways) = nd at *
  have hnl : nd.lines = L := by rw [← hnd]; rfl
  have hnu : nd.u = 0 := by rw [← hnd]; rfl
  have hnb : nd.backs.length = 0 := by rw [← hnd]; rfl
  have Hnl := Lib.hid hnl; clear hnl
  have Hnu := Lib.hid hnu; clear hnu
  have Hnb := Lib.hid hnb; clear hnb hnd
  go_wp2
  go_loopw [8] (fun i wr => ∃ k : Nat, k ≤ xs.length ∧ i = .int .i64 k ∧ NSt w wr a p S bs ways (nd.play (xs.take k)) []) (fun i _ => xs.length - (intOf i).toNat)
  case atStart => exact ⟨0, by omega, rfl, H1.out⟩
  case round =>
    obtain ⟨k, hk, rfl, hs⟩ := hrel
    have HS := Lib.hid hs; clear hs H1
    by_cases hlt : k < xs.length
    · obtain ⟨x, hxk⟩ : ∃ x, xs[k]? = some x := ⟨xs[k], List.getElem?_eq_getElem hlt⟩
      have hgr := gr_play (xs.take k) nd
      have hni := ni_play (xs.take k) HNI.out
      have hpt := play_take xs nd hxk
      generalize nd.play (xs.take k) = n0 at *
      have hn0l : n0.lines = L := hgr.lines.trans Hnl.out
      have hn0u : n0.u ≤ 800 := by have := hgr.u; rw [Hnu.out, List.length_take] at this; omega
      have hn0b : n0.backs.length ≤ 400 := by have := hgr.backs; rw [Hnb.out, List.length_take] at this; omega
      have hn0p : 0 ≤ n0.u := hni.u0
      have hxn := HN.out x (List.mem_of_getElem? hxk)
      have HA := Lib.hid (alls_st HS.out L hn0l hL64)
      have HLv := Lib.hid (live_st HS.out)
      have Hpt := Lib.hid hpt; clear hpt
      have HNi := Lib.hid hni; clear hni
      have Hn0l := Lib.hid hn0l; clear hn0l hgr
      have Hxk := Lib.hid hxk; clear hxk
      go_wp2_with fail
      refine HA.out.mono ?_
      rintro e wc ⟨vw, rfl, hsw, hs⟩
      have HSw := Lib.hid hsw; clear hsw HA HLv
      have HSc := Lib.hid hs; clear hs
      have HLv := Lib.hid (live_st HSc.out)
      go_wp2_with fail
      refine HLv.out.mono ?_
      rintro e w' ⟨rfl, rfl⟩
      have hr := (HX.out.below HSc.out.below (Nat.le_refl _)).2 k x Hxk.out
      have Hr := Lib.hid hr; clear hr
      have HPl := Lib.hid (play_st HSc.out x hxn hn0p (by omega) (by omega))
      go_wp2_with (refine wpList_load_mid rfl 76 (.tmp 48) rfl q (c + k * 15) rfl x.cells _ ?_ Try.underlying76 rfl Try.size76 ?_; exact Hr.out)
      refine HPl.out.mono ?_
      rintro e wd ⟨vo, rfl, hso, hs⟩
      have HSo := Lib.hid hso; clear hso HPl Hr HLv
      have HSd := Lib.hid hs; clear hs HSc
      have hn1l : (n0.step x).1.lines = L := (gr_step n0 x).lines.trans Hn0l.out
      have HA1 := Lib.hid (alls_st HSd.out L hn1l hL64)
      have hle : (n0.step x).1.all.length ≤ 64 := by have := all_len (n0.step x).1; omega
      have hlw : n0.all.length ≤ 64 := by have := all_len n0; rw [Hn0l.out] at this; omega
      have HNj := Lib.hid (HNi.out.step x)
      go_wp2_with fail
      refine HA1.out.mono ?_
      rintro e we ⟨vn, rfl, hsn, hs⟩
      have HSn := Lib.hid hsn; clear hsn HA1
      have HSe := Lib.hid hs; clear hs HSd
      have HCl := Lib.hid (clean_any HSe.out HSn.out (fun y hy => List.mem_append_left _ hy) hle)
      go_wp2_with fail
      refine HCl.out.mono ?_
      rintro e w' ⟨rfl, rfl⟩
      have HLv := Lib.hid (live_st HSe.out)
      have hcl : (n0.step x).1.live = true ∨ ((n0.step x).1.live = false ∧ cleanL (n0.step x).1.all = true) := by
        rcases hb : (n0.step x).1.live with _ | _
        · exact .inr ⟨rfl, clean_of HNj.out hb⟩
        · exact .inl rfl
      obtain ⟨gn, capn, rfl, -⟩ := HSe.out.rowE HSn.out (fun y hy => List.mem_append_left _ hy)
      obtain ⟨go', capo, rfl, -⟩ := HSe.out.rowM HSo.out (fun y hy => List.mem_append_right _ (List.mem_append_left _ hy))
      obtain ⟨gw, capw, rfl, -⟩ := HSe.out.rowE HSw.out (fun y hy => List.mem_append_right _ (List.mem_append_right _ (List.mem_append_left _ hy)))
      clear HCl
      obtain ⟨bl, hbl⟩ : ∃ b, b = n0.live := ⟨_, rfl⟩
      rw [← hbl]; clear hbl
      have hlo : (n0.step x).2.length ≤ 2 := step_len n0 x
      rcases hcl with hv | ⟨hv, hcl⟩
      · rw [hv] at HLv
        go_wp2_with fail
        refine HLv.out.mono ?_
        rintro e w' ⟨rfl, rfl⟩
        clear HLv
        go_wp2
        go_loop [14] (fun i => ∃ j : Nat, j ≤ (n0.step x).1.all.length ∧ i = .int .i64 j) (fun i => (n0.step x).1.all.length - (intOf i).toNat)
        case atStart => exact ⟨0, by omega, rfl⟩
        case round =>
          obtain ⟨j, hj, rfl⟩ := hrel
          by_cases hjt : j < (n0.step x).1.all.length
          · obtain ⟨e0, he⟩ : ∃ e0, (n0.step x).1.all[j]? = some e0 := ⟨(n0.step x).1.all[j], List.getElem?_eq_getElem hjt⟩
            have hmq := (HNj.out.all_marks (List.mem_of_getElem? he)).2
            obtain ⟨g, rfl, hc⟩ := (HSe.out.rowEs HSn.out (fun y hy => List.mem_append_left _ hy)) j e0 he
            have c1 : we.cell? ⟨g, j * 21 + 1, none⟩ = some (.int .i64 e0.state) := hc 1 _ (by omega) rfl
            have c3 : we.cell? ⟨g, j * 21 + 3, none⟩ = some (.bool e0.write) := hc 3 _ (by omega) rfl
            clear he hc
            cases hw : e0.write
            · rw [hw] at c3
              clear hmq hw
              go_wp2
              go_round
              case rel => exact ⟨j + 1, by omega, by go_num⟩
              case measure => simp [intOf]; omega
            · rw [hw] at c3
              rw [hmq hw] at c1
              clear hmq hw
              go_wp2
              go_round
              case rel => exact ⟨j + 1, by omega, by go_num⟩
              case measure => simp [intOf]; omega
          · obtain rfl : j = (n0.step x).1.all.length := by omega
            go_wp2
            go_loopw [15, 16] (fun i _ wr => ∃ kk : Nat, kk ≤ (n0.step x).2.length ∧ i = .int .i64 kk ∧ NSt w wr a p S bs ways (n0.step x).1 (rowsE (.slice gn (n0.step x).1.all.length capn) (n0.step x).1.all ++ (rowsM (.slice go' (n0.step x).2.length capo) (n0.step x).2 ++ (rowsE (.slice gw n0.all.length capw) n0.all ++ [])))) (fun i _ _ => (n0.step x).2.length - (intOf i).toNat)
            case atStart => exact ⟨0, by omega, rfl, HSe.out⟩
            case round =>
              obtain ⟨kk, hkk, rfl, hs⟩ := hrel
              have HS3 := Lib.hid hs; clear hs
              by_cases hkt : kk < (n0.step x).2.length
              · obtain ⟨m, hm⟩ : ∃ m, (n0.step x).2[kk]? = some m := ⟨(n0.step x).2[kk], List.getElem?_eq_getElem hkt⟩
                have Hm := Lib.hid hm; clear hm
                go_wp2
                go_loopw [16] (fun i wr => ∃ j : Nat, j ≤ n0.all.length ∧ i = .int .i64 j ∧ NSt w wr a p S bs ways (n0.step x).1 (rowsE (.slice gn (n0.step x).1.all.length capn) (n0.step x).1.all ++ (rowsM (.slice go' (n0.step x).2.length capo) (n0.step x).2 ++ (rowsE (.slice gw n0.all.length capw) n0.all ++ [])))) (fun i _ => n0.all.length - (intOf i).toNat)
                case atStart => exact ⟨0, by omega, rfl, HS3.out⟩
                case round =>
                  obtain ⟨j, hj, rfl, hs⟩ := hrel
                  have HS4 := Lib.hid hs; clear hs HS3
                  by_cases hjt : j < n0.all.length
                  · cases bl
                    · go_wp2
                      go_round
                      case rel => exact ⟨kk + 1, by omega, by go_num, HS4.out⟩
                      case measure => simp [intOf]; omega
                    · obtain ⟨e0, he⟩ : ∃ e0, n0.all[j]? = some e0 := ⟨n0.all[j], List.getElem?_eq_getElem hjt⟩
                      have hfi := HNi.out.all_find (List.mem_of_getElem? he)
                      have hmo := fun hk => msg_old HNi.out x (List.mem_of_getElem? Hm.out) hk (e := e0)
                      obtain ⟨g, hgw, hc⟩ := (HS4.out.rowEs HSw.out (fun y hy => List.mem_append_right _ (List.mem_append_right _ (List.mem_append_left _ hy)))) j e0 he
                      obtain ⟨g2, hgo, hd⟩ := (HS4.out.rowMs HSo.out (fun y hy => List.mem_append_right _ (List.mem_append_left _ hy))) kk m Hm.out
                      subst hgw
                      subst hgo
                      have HS4q := Lib.hid (fun q => HS4.out.drewN q)
                      have HL := Lib.hid (HS4.out.liveQ)
                      rw [hv] at HL
                      have c0 : wr.cell? ⟨g, j * 21, none⟩ = some (.int .i64 e0.line) := hc 0 _ (by omega) rfl
                      have c3 : wr.cell? ⟨g, j * 21 + 3, none⟩ = some (.bool e0.write) := hc 3 _ (by omega) rfl
                      have m0 : wr.cell? ⟨g2, kk * 11, none⟩ = some (.int .i64 m.kind) := hd 0 _ (by omega) rfl
                      have m2 : wr.cell? ⟨g2, kk * 11 + 2, none⟩ = some (.int .i64 m.line) := hd 2 _ (by omega) rfl
                      have Hc := Lib.hid hc; clear hc
                      have Hd := Lib.hid hd; clear hd
                      have HZ : Hid (∀ q, NSt w (wr.drewN q) a p S bs ways (n0.step x).1 (rowsE (.slice gn (n0.step x).1.all.length capn) (n0.step x).1.all ++ (rowsM (.slice (some ⟨g2, 0, none⟩) (n0.step x).2.length capo) (n0.step x).2 ++ (rowsE (.slice (some ⟨g, 0, none⟩) n0.all.length capw) n0.all ++ [])))) := HS4q
                      clear HS4q
                      by_cases hl : e0.line = m.line
                      · cases hw : e0.write
                        · rw [hw] at c3
                          have h1 : (e0.line == m.line) = true := by simpa using hl
                          clear hw hl hmo hfi Hc Hd
                          go_wp2
                          go_quiet (fail)
                          go_wp2
                          go_round
                          case rel => exact ⟨j + 1, by omega, by go_num, HZ.out _⟩
                          case measure => simp [intOf]; omega
                        · rw [hw] at c3
                          by_cases hk3 : m.kind = 3
                          · exact absurd (hmo (by omega) (by rw [← hl]; exact hfi) hw).2 (by rw [hv]; simp)
                          · by_cases hk5 : m.kind = 5
                            · exact absurd (hmo (by omega) (by rw [← hl]; exact hfi) hw).2 (by rw [hv]; simp)
                            · have h1 : (e0.line == m.line) = true := by simpa using hl
                              have h2 : (m.kind == 3) = false := by simpa using hk3
                              have h3 : (m.kind == 5) = false := by simpa using hk5
                              clear hw hl hmo hfi Hc Hd hk3 hk5
                              go_wp2
                              go_quiet (fail)
                              go_wp2
                              go_round
                              case rel => exact ⟨j + 1, by omega, by go_num, HZ.out _⟩
                              case measure => simp [intOf]; omega
                      · have h1 : (e0.line == m.line) = false := by simpa using hl
                        clear hl hmo hfi Hc Hd
                        go_wp2
                        go_quiet (fail)
                        go_wp2
                        go_round
                        case rel => exact ⟨j + 1, by omega, by go_num, HZ.out _⟩
                        case measure => simp [intOf]; omega
                  · obtain rfl : j = n0.all.length := by omega
                    go_wp2
                    go_round
                    case rel => exact ⟨kk + 1, by omega, by go_num, HS4.out⟩
                    case measure => simp [intOf]; omega
              · obtain rfl : kk = (n0.step x).2.length := by omega
                have HSx := Lib.hid (HS3.out.drop [] (fun y hy => by cases hy))
                go_wp2
                go_round
                case rel => exact ⟨k + 1, by omega, by go_num, by rw [Hpt.out]; exact HSx.out⟩
                case measure => simp [intOf]; omega
      · rw [hv] at HLv
        rw [hcl]
        go_wp2_with fail
        refine HLv.out.mono ?_
        rintro e w' ⟨rfl, rfl⟩
        clear HLv
        go_wp2
        go_loop [14] (fun i => ∃ j : Nat, j ≤ (n0.step x).1.all.length ∧ i = .int .i64 j) (fun i => (n0.step x).1.all.length - (intOf i).toNat)
        case atStart => exact ⟨0, by omega, rfl⟩
        case round =>
          obtain ⟨j, hj, rfl⟩ := hrel
          by_cases hjt : j < (n0.step x).1.all.length
          · obtain ⟨e0, he⟩ : ∃ e0, (n0.step x).1.all[j]? = some e0 := ⟨(n0.step x).1.all[j], List.getElem?_eq_getElem hjt⟩
            have hmq := (HNj.out.all_marks (List.mem_of_getElem? he)).2
            obtain ⟨g, rfl, hc⟩ := (HSe.out.rowEs HSn.out (fun y hy => List.mem_append_left _ hy)) j e0 he
            have c1 : we.cell? ⟨g, j * 21 + 1, none⟩ = some (.int .i64 e0.state) := hc 1 _ (by omega) rfl
            have c3 : we.cell? ⟨g, j * 21 + 3, none⟩ = some (.bool e0.write) := hc 3 _ (by omega) rfl
            clear he hc
            cases hw : e0.write
            · rw [hw] at c3
              clear hmq hw
              go_wp2
              go_round
              case rel => exact ⟨j + 1, by omega, by go_num⟩
              case measure => simp [intOf]; omega
            · rw [hw] at c3
              rw [hmq hw] at c1
              clear hmq hw
              go_wp2
              go_round
              case rel => exact ⟨j + 1, by omega, by go_num⟩
              case measure => simp [intOf]; omega
          · obtain rfl : j = (n0.step x).1.all.length := by omega
            go_wp2
            go_loopw [15, 16] (fun i _ wr => ∃ kk : Nat, kk ≤ (n0.step x).2.length ∧ i = .int .i64 kk ∧ NSt w wr a p S bs ways (n0.step x).1 (rowsE (.slice gn (n0.step x).1.all.length capn) (n0.step x).1.all ++ (rowsM (.slice go' (n0.step x).2.length capo) (n0.step x).2 ++ (rowsE (.slice gw n0.all.length capw) n0.all ++ [])))) (fun i _ _ => (n0.step x).2.length - (intOf i).toNat)
            case atStart => exact ⟨0, by omega, rfl, HSe.out⟩
            case round =>
              obtain ⟨kk, hkk, rfl, hs⟩ := hrel
              have HS3 := Lib.hid hs; clear hs
              by_cases hkt : kk < (n0.step x).2.length
              · obtain ⟨m, hm⟩ : ∃ m, (n0.step x).2[kk]? = some m := ⟨(n0.step x).2[kk], List.getElem?_eq_getElem hkt⟩
                have Hm := Lib.hid hm; clear hm
                go_wp2
                go_loopw [16] (fun i wr => ∃ j : Nat, j ≤ n0.all.length ∧ i = .int .i64 j ∧ NSt w wr a p S bs ways (n0.step x).1 (rowsE (.slice gn (n0.step x).1.all.length capn) (n0.step x).1.all ++ (rowsM (.slice go' (n0.step x).2.length capo) (n0.step x).2 ++ (rowsE (.slice gw n0.all.length capw) n0.all ++ [])))) (fun i _ => n0.all.length - (intOf i).toNat)
                case atStart => exact ⟨0, by omega, rfl, HS3.out⟩
                case round =>
                  obtain ⟨j, hj, rfl, hs⟩ := hrel
                  have HS4 := Lib.hid hs; clear hs HS3
                  by_cases hjt : j < n0.all.length
                  · cases bl
                    · go_wp2
                      go_round
                      case rel => exact ⟨kk + 1, by omega, by go_num, HS4.out⟩
                      case measure => simp [intOf]; omega
                    · obtain ⟨e0, he⟩ : ∃ e0, n0.all[j]? = some e0 := ⟨n0.all[j], List.getElem?_eq_getElem hjt⟩
                      have hfi := HNi.out.all_find (List.mem_of_getElem? he)
                      have hmo := fun hk => msg_old HNi.out x (List.mem_of_getElem? Hm.out) hk (e := e0)
                      obtain ⟨g, hgw, hc⟩ := (HS4.out.rowEs HSw.out (fun y hy => List.mem_append_right _ (List.mem_append_right _ (List.mem_append_left _ hy)))) j e0 he
                      obtain ⟨g2, hgo, hd⟩ := (HS4.out.rowMs HSo.out (fun y hy => List.mem_append_right _ (List.mem_append_left _ hy))) kk m Hm.out
                      subst hgw
                      subst hgo
                      have HS4q := Lib.hid (fun q => HS4.out.drewN q)
                      have HL := Lib.hid (HS4.out.liveQ)
                      rw [hv] at HL
                      have c0 : wr.cell? ⟨g, j * 21, none⟩ = some (.int .i64 e0.line) := hc 0 _ (by omega) rfl
                      have c3 : wr.cell? ⟨g, j * 21 + 3, none⟩ = some (.bool e0.write) := hc 3 _ (by omega) rfl
                      have m0 : wr.cell? ⟨g2, kk * 11, none⟩ = some (.int .i64 m.kind) := hd 0 _ (by omega) rfl
                      have m2 : wr.cell? ⟨g2, kk * 11 + 2, none⟩ = some (.int .i64 m.line) := hd 2 _ (by omega) rfl
                      have Hc := Lib.hid hc; clear hc
                      have Hd := Lib.hid hd; clear hd
                      have HZ : Hid (∀ q, NSt w (wr.drewN q) a p S bs ways (n0.step x).1 (rowsE (.slice gn (n0.step x).1.all.length capn) (n0.step x).1.all ++ (rowsM (.slice (some ⟨g2, 0, none⟩) (n0.step x).2.length capo) (n0.step x).2 ++ (rowsE (.slice (some ⟨g, 0, none⟩) n0.all.length capw) n0.all ++ [])))) := HS4q
                      clear HS4q
                      by_cases hl : e0.line = m.line
                      · cases hw : e0.write
                        · rw [hw] at c3
                          have h1 : (e0.line == m.line) = true := by simpa using hl
                          clear hw hl hmo hfi Hc Hd
                          go_wp2
                          go_quiet (fail)
                          go_wp2
                          go_round
                          case rel => exact ⟨j + 1, by omega, by go_num, HZ.out _⟩
                          case measure => simp [intOf]; omega
                        · rw [hw] at c3
                          by_cases hk3 : m.kind = 3
                          · obtain ⟨hde, -⟩ := hmo (by omega) (by rw [← hl]; exact hfi) hw
                            have h1 : (e0.line == m.line) = true := by simpa using hl
                            rw [hk3] at m0
                            have d0 : wr.cell? ⟨g2, kk * 11 + 3, none⟩ = some (.int .u64 m.data.x0) := Hd.out 3 _ (by omega) rfl
                            have d1 : wr.cell? ⟨g2, kk * 11 + 3 + 1, none⟩ = some (.int .u64 m.data.x1) := Hd.out 4 _ (by omega) rfl
                            have d2 : wr.cell? ⟨g2, kk * 11 + 3 + 2, none⟩ = some (.int .u64 m.data.x2) := Hd.out 5 _ (by omega) rfl
                            have d3 : wr.cell? ⟨g2, kk * 11 + 3 + 3, none⟩ = some (.int .u64 m.data.x3) := Hd.out 6 _ (by omega) rfl
                            have d4 : wr.cell? ⟨g2, kk * 11 + 3 + 4, none⟩ = some (.int .u64 m.data.x4) := Hd.out 7 _ (by omega) rfl
                            have d5 : wr.cell? ⟨g2, kk * 11 + 3 + 5, none⟩ = some (.int .u64 m.data.x5) := Hd.out 8 _ (by omega) rfl
                            have d6 : wr.cell? ⟨g2, kk * 11 + 3 + 6, none⟩ = some (.int .u64 m.data.x6) := Hd.out 9 _ (by omega) rfl
                            have d7 : wr.cell? ⟨g2, kk * 11 + 3 + 7, none⟩ = some (.int .u64 m.data.x7) := Hd.out 10 _ (by omega) rfl
                            have o0 : wr.cell? ⟨g, j * 21 + 12, none⟩ = some (.int .u64 m.data.x0) := by rw [hde]; exact Hc.out 12 _ (by omega) rfl
                            have o1 : wr.cell? ⟨g, j * 21 + 12 + 1, none⟩ = some (.int .u64 m.data.x1) := by rw [hde]; exact Hc.out 13 _ (by omega) rfl
                            have o2 : wr.cell? ⟨g, j * 21 + 12 + 2, none⟩ = some (.int .u64 m.data.x2) := by rw [hde]; exact Hc.out 14 _ (by omega) rfl
                            have o3 : wr.cell? ⟨g, j * 21 + 12 + 3, none⟩ = some (.int .u64 m.data.x3) := by rw [hde]; exact Hc.out 15 _ (by omega) rfl
                            have o4 : wr.cell? ⟨g, j * 21 + 12 + 4, none⟩ = some (.int .u64 m.data.x4) := by rw [hde]; exact Hc.out 16 _ (by omega) rfl
                            have o5 : wr.cell? ⟨g, j * 21 + 12 + 5, none⟩ = some (.int .u64 m.data.x5) := by rw [hde]; exact Hc.out 17 _ (by omega) rfl
                            have o6 : wr.cell? ⟨g, j * 21 + 12 + 6, none⟩ = some (.int .u64 m.data.x6) := by rw [hde]; exact Hc.out 18 _ (by omega) rfl
                            have o7 : wr.cell? ⟨g, j * 21 + 12 + 7, none⟩ = some (.int .u64 m.data.x7) := by rw [hde]; exact Hc.out 19 _ (by omega) rfl
                            clear hw hl hmo hfi Hc Hd hk3 hde
                            go_wp2
                            go_quiet ((go_at_call 18; exact Calls.quiet_of_same (HL.out _)))
                            go_wp2
                            go_round
                            case rel => exact ⟨j + 1, by omega, by go_num, HZ.out _⟩
                            case measure => simp [intOf]; omega
                          · by_cases hk5 : m.kind = 5
                            · obtain ⟨hde, -⟩ := hmo (by omega) (by rw [← hl]; exact hfi) hw
                              have h1 : (e0.line == m.line) = true := by simpa using hl
                              rw [hk5] at m0
                              have d0 : wr.cell? ⟨g2, kk * 11 + 3, none⟩ = some (.int .u64 m.data.x0) := Hd.out 3 _ (by omega) rfl
                              have d1 : wr.cell? ⟨g2, kk * 11 + 3 + 1, none⟩ = some (.int .u64 m.data.x1) := Hd.out 4 _ (by omega) rfl
                              have d2 : wr.cell? ⟨g2, kk * 11 + 3 + 2, none⟩ = some (.int .u64 m.data.x2) := Hd.out 5 _ (by omega) rfl
                              have d3 : wr.cell? ⟨g2, kk * 11 + 3 + 3, none⟩ = some (.int .u64 m.data.x3) := Hd.out 6 _ (by omega) rfl
                              have d4 : wr.cell? ⟨g2, kk * 11 + 3 + 4, none⟩ = some (.int .u64 m.data.x4) := Hd.out 7 _ (by omega) rfl
                              have d5 : wr.cell? ⟨g2, kk * 11 + 3 + 5, none⟩ = some (.int .u64 m.data.x5) := Hd.out 8 _ (by omega) rfl
                              have d6 : wr.cell? ⟨g2, kk * 11 + 3 + 6, none⟩ = some (.int .u64 m.data.x6) := Hd.out 9 _ (by omega) rfl
                              have d7 : wr.cell? ⟨g2, kk * 11 + 3 + 7, none⟩ = some (.int .u64 m.data.x7) := Hd.out 10 _ (by omega) rfl
                              have o0 : wr.cell? ⟨g, j * 21 + 12, none⟩ = some (.int .u64 m.data.x0) := by rw [hde]; exact Hc.out 12 _ (by omega) rfl
                              have o1 : wr.cell? ⟨g, j * 21 + 12 + 1, none⟩ = some (.int .u64 m.data.x1) := by rw [hde]; exact Hc.out 13 _ (by omega) rfl
                              have o2 : wr.cell? ⟨g, j * 21 + 12 + 2, none⟩ = some (.int .u64 m.data.x2) := by rw [hde]; exact Hc.out 14 _ (by omega) rfl
                              have o3 : wr.cell? ⟨g, j * 21 + 12 + 3, none⟩ = some (.int .u64 m.data.x3) := by rw [hde]; exact Hc.out 15 _ (by omega) rfl
                              have o4 : wr.cell? ⟨g, j * 21 + 12 + 4, none⟩ = some (.int .u64 m.data.x4) := by rw [hde]; exact Hc.out 16 _ (by omega) rfl
                              have o5 : wr.cell? ⟨g, j * 21 + 12 + 5, none⟩ = some (.int .u64 m.data.x5) := by rw [hde]; exact Hc.out 17 _ (by omega) rfl
                              have o6 : wr.cell? ⟨g, j * 21 + 12 + 6, none⟩ = some (.int .u64 m.data.x6) := by rw [hde]; exact Hc.out 18 _ (by omega) rfl
                              have o7 : wr.cell? ⟨g, j * 21 + 12 + 7, none⟩ = some (.int .u64 m.data.x7) := by rw [hde]; exact Hc.out 19 _ (by omega) rfl
                              clear hw hl hmo hfi Hc Hd hk3 hk5 hde
                              go_wp2
                              go_quiet ((go_at_call 18; exact Calls.quiet_of_same (HL.out _)))
                              go_wp2
                              go_round
                              case rel => exact ⟨j + 1, by omega, by go_num, HZ.out _⟩
                              case measure => simp [intOf]; omega
                            · have h1 : (e0.line == m.line) = true := by simpa using hl
                              have h2 : (m.kind == 3) = false := by simpa using hk3
                              have h3 : (m.kind == 5) = false := by simpa using hk5
                              clear hw hl hmo hfi Hc Hd hk3 hk5
                              go_wp2
                              go_quiet (fail)
                              go_wp2
                              go_round
                              case rel => exact ⟨j + 1, by omega, by go_num, HZ.out _⟩
                              case measure => simp [intOf]; omega
                      · have h1 : (e0.line == m.line) = false := by simpa using hl
                        clear hl hmo hfi Hc Hd
                        go_wp2
                        go_quiet (fail)
                        go_wp2
                        go_round
                        case rel => exact ⟨j + 1, by omega, by go_num, HZ.out _⟩
                        case measure => simp [intOf]; omega
                  · obtain rfl : j = n0.all.length := by omega
                    go_wp2
                    go_round
                    case rel => exact ⟨kk + 1, by omega, by go_num, HS4.out⟩
                    case measure => simp [intOf]; omega
              · obtain rfl : kk = (n0.step x).2.length := by omega
                have HSx := Lib.hid (HS3.out.drop [] (fun y hy => by cases hy))
                go_wp2
                go_round
                case rel => exact ⟨k + 1, by omega, by go_num, by rw [Hpt.out]; exact HSx.out⟩
                case measure => simp [intOf]; omega
    · obtain rfl : k = xs.length := by omega
      have HB := Lib.hid HS.out.below
      go_wp2
      go_ret
      exact ⟨rfl, HB.out⟩

end Go.Proofs.Ytddajnpichchfaa
