/- hist: memory: pass; fresh. Conditions: those stated in each theorem. -/
import Derived.Test.YtgjbhcnadenojaaHisU
import Derived.Deep.CutBlock
namespace Go.Proofs.Ytgjbhcnadenojaa
open Go.RowKit Go.BigFrame Go.Maps

theorem puts_take {l : List Pr} {k : Nat} {x : Pr} (f : Mp) (hx : l[k]? = some x) : Wd.puts f (l.take (k + 1)) = (Wd.puts f (l.take k)).put x.a x.v := by
  unfold Wd.puts
  rw [List.take_add_one, List.foldl_append, hx]
  rfl
section
variable {lo mid B : Nat} {w w' : World} {c : SC} {h : List Ev} {mp ml n : Nat} {fv : Value} {m : Wd}
set_option maxHeartbeats 400000 in
theorem fresh_any {first : List Int} {a : Option Addr} {cap : Nat} (hr : RowsIn w a 1 ucell first) : Calls Try.prog 35 #[.slice a first.length cap] w fun z w' => ∃ mp ml, z = .returned (.pointer (some ⟨mp, 0, none⟩)) ∧ WmAt w' mp ml 0 (.slice a first.length cap) ⟨first, Mp.none⟩ ∧ w.heap.size ≤ ml ∧ w.heap.size ≤ mp ∧ Below w.heap.size w w' := by
  have hmm := @run_makeMap Try.prog
  have Hr := Lib.hid hr; clear hr
  go_enter Try.func35, Try.ntmps35
  go_wp2
  go_ret
  have hb : Below w.heap.size w ((w.alloc (.map #[] 0)).alloc (.cells #[.slice a first.length cap, .map (some w.heap.size)] 113)) := ((Below.refl _ w).alloc (Nat.le_refl _) _).alloc (by simp) _
  refine ⟨w.heap.size + 1, w.heap.size, rfl, ⟨?_, ?_, a, cap, rfl, Hr.out.below hb⟩, Nat.le_refl _, by omega, hb⟩
  · have := Holds.new (w.alloc (.map #[] 0)) 113 [.slice a first.length cap, .map (some w.heap.size)]
    rwa [World.size_alloc] at this
  · exact (MpAt.made w 46 .u64).same (Below.heap_alloc _ _ _ (by simp))

/-- What happens at a moment, behind a plain store. -/
def Wd.rest (m : Wd) (f : Mp) (hp : Option Kn) : Wd := match hp with | none => { m with later := f } | some x => if x.com then { m with later := Wd.puts f x.st } else { m with later := f }
set_option maxRecDepth 100000 in
set_option maxHeartbeats 2000000 in
theorem mpass_any (s : StoR lo mid B w c h) (hB : Free lo mid B ml) (hm : WmAt w mp ml n fv m) (hn : n ≤ 10000000) (e : Ev) (he : e.fit) (pl : Int) {v : Value} {hp : Option Kn} (hv : HpIs c v hp) :
    Calls Try.prog 37 #[.pointer (some ⟨mp, 0, none⟩), moVal e pl v] w fun z w' => z = .returned (.tuple #[]) ∧ WmAt w' mp ml (n + 1001) fv (m.pass ⟨e, pl, hp⟩) ∧ Tch (fun k => k = ml) w w' := by
  obtain ⟨f1, hf1⟩ : ∃ f1, (if e.k = 8 then m.later.put e.ad e.va else m.later) = f1 := ⟨_, rfl⟩
  obtain ⟨ek, etm, eco, ebl, etr, ela, ead, eva, ecd⟩ := e
  simp only at hf1
  unfold moVal
  have hpass : m.pass ⟨⟨ek, etm, eco, ebl, etr, ela, ead, eva, ecd⟩, pl, hp⟩ = m.rest f1 hp := by simp only [Wd.pass, hf1, Wd.rest]; cases hp <;> rfl
  rw [hpass]
  clear hpass
  have hb1 : Below w.heap.size w (w.alloc (.cells #[.int .i64 ek, .int .i64 etm, .int .i64 eco, .int .i64 ebl, .int .i64 etr, .int .i64 ela, .int .i64 ead, .int .u64 eva, .int .i64 ecd, .int .i64 pl, v] 85)) := (Below.refl _ w).alloc (Nat.le_refl _) _
  have hbox : Holds (w.alloc (.cells #[.int .i64 ek, .int .i64 etm, .int .i64 eco, .int .i64 ebl, .int .i64 etr, .int .i64 ela, .int .i64 ead, .int .u64 eva, .int .i64 ecd, .int .i64 pl, v] 85)) w.heap.size 85 [.int .i64 ek, .int .i64 etm, .int .i64 eco, .int .i64 ebl, .int .i64 etr, .int .i64 ela, .int .i64 ead, .int .u64 eva, .int .i64 ecd, .int .i64 pl, v] := Holds.new _ _ _
  have hm1 : WmAt (w.alloc (.cells #[.int .i64 ek, .int .i64 etm, .int .i64 eco, .int .i64 ebl, .int .i64 etr, .int .i64 ela, .int .i64 ead, .int .u64 eva, .int .i64 ecd, .int .i64 pl, v] 85)) mp ml n fv m := hm.below hb1
  have x0 := hbox.cell (i := 0) rfl
  have x6 := hbox.cell (i := 6) rfl
  have x7 := hbox.cell (i := 7) rfl
  have x10 := hbox.cell (i := 10) rfl
  have y1 := hm1.head.cell (i := 1) rfl
  have Hb1 := Lib.hid hb1; clear hb1
  have HM := Lib.hid hm; clear hm
  have HM1 := Lib.hid hm1; clear hm1
  have HS := Lib.hid s; clear s
  have Hbox := Lib.hid hbox; clear hbox
  by_cases h8 : ek = 8
  · subst h8
    rw [if_pos rfl] at hf1
    have Hf1 := Lib.hid hf1; clear hf1
    go_enter Try.func37, Try.ntmps37
    go_wp2_with fail
    generalize w.alloc (.cells #[.int .i64 8, .int .i64 etm, .int .i64 eco, .int .i64 ebl, .int .i64 etr, .int .i64 ela, .int .i64 ead, .int .u64 eva, .int .i64 ecd, .int .i64 pl, v] 85) = W1 at *
    go_still_tail 10, (by kernel_rfl)
    change wpList _ _ _ _ _ W1.drew
    go_wp2_with (at_mapUpdate; refine mp_put Try.underlying111 Try.underlying46 rfl _ _ _ rfl ml n m.later ead eva rfl rfl rfl (HM1.out.map.same (w' := W1.drew) rfl) he.2.1 he.2.2 (by unfold maxLen; omega) ?_; intro W2 hm3 hg3; have HM2 := Lib.hid (WmAt.put HM1.out hm3 ((Tch.refl (fun k => k = ml) W1).drew.grown hg3 (fun k e => by cases e; exact .inl rfl))); have HT2 := Lib.hid ((Tch.refl (fun k => k = ml) W1).drew.grown hg3 (fun k e => by cases e; exact .inl rfl)); clear hm3 hg3 x0 x6 x7 x10 y1; refine Hid.out ?_)
    refine Lib.hid ?_
    rw [Hf1.out] at HM2
    have hB2 : Holds W2 w.heap.size 85 [.int .i64 8, .int .i64 etm, .int .i64 eco, .int .i64 ebl, .int .i64 etr, .int .i64 ela, .int .i64 ead, .int .u64 eva, .int .i64 ecd, .int .i64 pl, v] := HT2.out.holds (fun e => by have := HM.out.map.lt; omega) Hbox.out
    have z10 := hB2.cell (i := 10) rfl
    have hT : Tch (fun k => k = ml) w W2 := (Tch.of_idle Hb1.out).trans HT2.out
    have HT := Lib.hid hT; clear hT hB2 HT2
    rcases hv with ⟨rfl, rfl⟩ | ⟨j, x, g, hx, hg, rfl, rfl⟩
    · have hq := Try.ptr_known_none
      go_wp2
      exact bodyPost_ret (results_none rfl _ _ _) rfl ⟨rfl, ⟨HM2.out.head, HM2.out.map.more (by omega), HM2.out.first⟩, HT.out⟩
    · have hq := Try.ptr_known_nil
      have hok := HS.out.ri.ks x.k (by simp only [SC.rd]; exact List.mem_map_of_mem (List.mem_of_getElem? hx))
      have hlen := HS.out.len
      have hst : StoR lo mid B W2 c h := HS.out.frame HT.out (fun k e => by subst e; exact hB)
      have hcs := hst.cells hx hg
      have y8 := hcs.c 8 rfl
      have y9 := hcs.c 9 rfl
      have hsr := hst.str hx
      have hsl : x.k.st.length ≤ 900 := by have := hok.stn; omega
      have HSF := Lib.hid hok.stf
      have HSR := Lib.hid hsr; clear hsr hcs hst hok
      obtain ⟨ad, cap, hlv⟩ : ∃ ad cap, x.sv = .slice ad x.k.st.length cap := by
        rcases owns_form HSR.out.1 with ⟨h1, h2, _⟩ | ⟨g, cap, h1, _⟩
        · exact ⟨none, 0, by rw [h1, h2]⟩
        · exact ⟨_, _, h1⟩
      rw [hlv] at y8 HSR
      clear hlv
      obtain ⟨cm, hcm⟩ : ∃ cm, x.k.com = cm := ⟨_, rfl⟩
      have hrest : m.rest f1 (some x.k) = if cm then { m with later := Wd.puts f1 x.k.st } else { m with later := f1 } := by simp only [Wd.rest, hcm]
      have HRest := Lib.hid hrest
      rw [hcm] at y9
      clear hcm hrest hx hg
      cases cm
      · go_wp2
        refine bodyPost_ret (results_none rfl _ _ _) rfl ⟨rfl, ?_, HT.out⟩
        rw [HRest.out]
        exact ⟨HM2.out.head, HM2.out.map.more (by omega), HM2.out.first⟩
      · go_wp2
        go_loopw [5, 39] (fun _ i wr => ∃ k : Nat, k ≤ x.k.st.length ∧ i = .int .i64 k ∧ WmAt wr mp ml (n + 1 + k) fv { m with later := Wd.puts f1 (x.k.st.take k) } ∧ Tch (fun k => k = ml) W2 wr) (fun _ i _ => x.k.st.length - (intOf i).toNat)
        case atStart => exact ⟨0, by omega, rfl, HM2.out, Tch.refl _ _⟩
        case round =>
          obtain ⟨k, hk, rfl, hmr, htr⟩ := hrel
          have Hmr := Lib.hid hmr; clear hmr
          have Htr := Lib.hid htr; clear htr
          by_cases hlt : k < x.k.st.length
          · obtain ⟨y, hy⟩ : ∃ y, x.k.st[k]? = some y := ⟨_, List.getElem?_eq_getElem hlt⟩
            have hrr := owns_same HSR.out.1 (w' := wr) (fun g e => Htr.out.block g (owns_lt HSR.out.1 e).2 (fun e2 => by have := HSR.out.2 g e; subst e2; unfold Free at hB; omega))
            obtain ⟨g2, cap', e, -, -⟩ := hrr.form (by omega)
            simp only [Value.slice.injEq] at e
            obtain ⟨rfl, -, rfl⟩ := e
            have q0 := (owns_cell hrr (g := g2) rfl (j := k * 2) (u := .int .i64 y.a) (by rw [Nat.mul_comm]; exact flatP_a hy)).1
            have q1 := (owns_cell hrr (g := g2) rfl (j := k * 2 + 1) (u := .int .u64 y.v) (by rw [Nat.mul_comm]; exact flatP_v hy)).1
            have hfy := HSF.out y (List.mem_of_getElem? hy)
            have HFY := Lib.hid hfy; clear hfy
            have HY := Lib.hid hy; clear hy
            clear hrr
            go_wp2_with fail
            have hbb : Below wr.heap.size wr (wr.alloc (.cells #[.int .i64 y.a, .int .u64 y.v] 48)) := (Below.refl _ wr).alloc (Nat.le_refl _) _
            have hmr2 := Hmr.out.below hbb
            have hc0 : (wr.alloc (.cells #[.int .i64 y.a, .int .u64 y.v] 48)).cell? ⟨wr.heap.size, 0, none⟩ = some (.int .i64 y.a) := (Holds.new wr 48 [.int .i64 y.a, .int .u64 y.v]).cell (i := 0) rfl
            have hc1 : (wr.alloc (.cells #[.int .i64 y.a, .int .u64 y.v] 48)).cell? ⟨wr.heap.size, 1, none⟩ = some (.int .u64 y.v) := (Holds.new wr 48 [.int .i64 y.a, .int .u64 y.v]).cell (i := 1) rfl
            have hh1 := hmr2.head.cell (i := 1) rfl
            have ht2 := Htr.out.trans (Tch.of_idle hbb)
            clear q0 q1 hbb
            generalize wr.alloc (.cells #[.int .i64 y.a, .int .u64 y.v] 48) = V1 at *
            have Hmr2 := Lib.hid hmr2; clear hmr2
            have Ht2 := Lib.hid ht2; clear ht2
            go_still_tail 8, (by kernel_rfl)
            change wpList _ _ _ _ _ V1.drew
            go_wp2_with (at_mapUpdate; refine mp_put Try.underlying111 Try.underlying46 rfl _ _ _ rfl ml (n + 1 + k) (Wd.puts f1 (x.k.st.take k)) y.a y.v rfl rfl rfl (Hmr2.out.map.same (w' := V1.drew) rfl) HFY.out.1 HFY.out.2 (by unfold maxLen; omega) ?_; intro w3 hm3 hg3; have hW3 := WmAt.put Hmr2.out hm3 ((Tch.refl (fun k => k = ml) V1).drew.grown hg3 (fun k e => by cases e; exact .inl rfl)); have HW3 := Lib.hid hW3; have HT3 := Lib.hid (Ht2.out.trans ((Tch.refl (fun k => k = ml) V1).drew.grown hg3 (fun k e => by cases e; exact .inl rfl))); clear hW3 hm3 hg3)
            go_roundw
            case rel => exact ⟨k + 1, by omega, by go_num, by rw [puts_take f1 HY.out]; exact HW3.out, HT3.out⟩
            case measure => simp [intOf]; omega
          · obtain rfl : k = x.k.st.length := by omega
            have hfin := Hmr.out
            rw [List.take_length] at hfin
            have HFin := Lib.hid hfin; clear hfin
            go_wp2
            go_end0
            refine ⟨rfl, ?_, HT.out.trans Htr.out⟩
            rw [HRest.out]
            exact ⟨HFin.out.head, HFin.out.map.more (by omega), HFin.out.first⟩
  · rw [if_neg h8] at hf1
    have Hf1 := Lib.hid hf1; clear hf1
    have b8 : (ek == 8) = false := by simpa using h8
    go_enter Try.func37, Try.ntmps37
    go_upto_region 3 with fail
    generalize w.alloc (.cells #[.int .i64 ek, .int .i64 etm, .int .i64 eco, .int .i64 ebl, .int .i64 etr, .int .i64 ela, .int .i64 ead, .int .u64 eva, .int .i64 ecd, .int .i64 pl, v] 85) = W2 at *
    have HM2 : Hid (WmAt W2 mp ml (n + 1) fv { m with later := f1 }) := Lib.hid (by rw [← Hf1.out]; exact ⟨HM1.out.head, HM1.out.map.more (Nat.le_succ _), HM1.out.first⟩)
    have HT2 := Lib.hid (Tch.refl (fun k => k = ml) W2)
    clear x0 x6 x7 x10 y1
    have hB2 : Holds W2 w.heap.size 85 [.int .i64 ek, .int .i64 etm, .int .i64 eco, .int .i64 ebl, .int .i64 etr, .int .i64 ela, .int .i64 ead, .int .u64 eva, .int .i64 ecd, .int .i64 pl, v] := HT2.out.holds (fun e => by have := HM.out.map.lt; omega) Hbox.out
    have z10 := hB2.cell (i := 10) rfl
    have hT : Tch (fun k => k = ml) w W2 := (Tch.of_idle Hb1.out).trans HT2.out
    have HT := Lib.hid hT; clear hT hB2 HT2
    rcases hv with ⟨rfl, rfl⟩ | ⟨j, x, g, hx, hg, rfl, rfl⟩
    · have hq := Try.ptr_known_none
      go_wp2
      exact bodyPost_ret (results_none rfl _ _ _) rfl ⟨rfl, ⟨HM2.out.head, HM2.out.map.more (by omega), HM2.out.first⟩, HT.out⟩
    · have hq := Try.ptr_known_nil
      have hok := HS.out.ri.ks x.k (by simp only [SC.rd]; exact List.mem_map_of_mem (List.mem_of_getElem? hx))
      have hlen := HS.out.len
      have hst : StoR lo mid B W2 c h := HS.out.frame HT.out (fun k e => by subst e; exact hB)
      have hcs := hst.cells hx hg
      have y8 := hcs.c 8 rfl
      have y9 := hcs.c 9 rfl
      have hsr := hst.str hx
      have hsl : x.k.st.length ≤ 900 := by have := hok.stn; omega
      have HSF := Lib.hid hok.stf
      have HSR := Lib.hid hsr; clear hsr hcs hst hok
      obtain ⟨ad, cap, hlv⟩ : ∃ ad cap, x.sv = .slice ad x.k.st.length cap := by
        rcases owns_form HSR.out.1 with ⟨h1, h2, _⟩ | ⟨g, cap, h1, _⟩
        · exact ⟨none, 0, by rw [h1, h2]⟩
        · exact ⟨_, _, h1⟩
      rw [hlv] at y8 HSR
      clear hlv
      obtain ⟨cm, hcm⟩ : ∃ cm, x.k.com = cm := ⟨_, rfl⟩
      have hrest : m.rest f1 (some x.k) = if cm then { m with later := Wd.puts f1 x.k.st } else { m with later := f1 } := by simp only [Wd.rest, hcm]
      have HRest := Lib.hid hrest
      rw [hcm] at y9
      clear hcm hrest hx hg
      cases cm
      · go_wp2
        refine bodyPost_ret (results_none rfl _ _ _) rfl ⟨rfl, ?_, HT.out⟩
        rw [HRest.out]
        exact ⟨HM2.out.head, HM2.out.map.more (by omega), HM2.out.first⟩
      · go_wp2
        go_loopw [5, 39] (fun _ i wr => ∃ k : Nat, k ≤ x.k.st.length ∧ i = .int .i64 k ∧ WmAt wr mp ml (n + 1 + k) fv { m with later := Wd.puts f1 (x.k.st.take k) } ∧ Tch (fun k => k = ml) W2 wr) (fun _ i _ => x.k.st.length - (intOf i).toNat)
        case atStart => exact ⟨0, by omega, rfl, HM2.out, Tch.refl _ _⟩
        case round =>
          obtain ⟨k, hk, rfl, hmr, htr⟩ := hrel
          have Hmr := Lib.hid hmr; clear hmr
          have Htr := Lib.hid htr; clear htr
          by_cases hlt : k < x.k.st.length
          · obtain ⟨y, hy⟩ : ∃ y, x.k.st[k]? = some y := ⟨_, List.getElem?_eq_getElem hlt⟩
            have hrr := owns_same HSR.out.1 (w' := wr) (fun g e => Htr.out.block g (owns_lt HSR.out.1 e).2 (fun e2 => by have := HSR.out.2 g e; subst e2; unfold Free at hB; omega))
            obtain ⟨g2, cap', e, -, -⟩ := hrr.form (by omega)
            simp only [Value.slice.injEq] at e
            obtain ⟨rfl, -, rfl⟩ := e
            have q0 := (owns_cell hrr (g := g2) rfl (j := k * 2) (u := .int .i64 y.a) (by rw [Nat.mul_comm]; exact flatP_a hy)).1
            have q1 := (owns_cell hrr (g := g2) rfl (j := k * 2 + 1) (u := .int .u64 y.v) (by rw [Nat.mul_comm]; exact flatP_v hy)).1
            have hfy := HSF.out y (List.mem_of_getElem? hy)
            have HFY := Lib.hid hfy; clear hfy
            have HY := Lib.hid hy; clear hy
            clear hrr
            go_wp2_with fail
            have hbb : Below wr.heap.size wr (wr.alloc (.cells #[.int .i64 y.a, .int .u64 y.v] 48)) := (Below.refl _ wr).alloc (Nat.le_refl _) _
            have hmr2 := Hmr.out.below hbb
            have hc0 : (wr.alloc (.cells #[.int .i64 y.a, .int .u64 y.v] 48)).cell? ⟨wr.heap.size, 0, none⟩ = some (.int .i64 y.a) := (Holds.new wr 48 [.int .i64 y.a, .int .u64 y.v]).cell (i := 0) rfl
            have hc1 : (wr.alloc (.cells #[.int .i64 y.a, .int .u64 y.v] 48)).cell? ⟨wr.heap.size, 1, none⟩ = some (.int .u64 y.v) := (Holds.new wr 48 [.int .i64 y.a, .int .u64 y.v]).cell (i := 1) rfl
            have hh1 := hmr2.head.cell (i := 1) rfl
            have ht2 := Htr.out.trans (Tch.of_idle hbb)
            clear q0 q1 hbb
            generalize wr.alloc (.cells #[.int .i64 y.a, .int .u64 y.v] 48) = V1 at *
            have Hmr2 := Lib.hid hmr2; clear hmr2
            have Ht2 := Lib.hid ht2; clear ht2
            go_still_tail 8, (by kernel_rfl)
            change wpList _ _ _ _ _ V1.drew
            go_wp2_with (at_mapUpdate; refine mp_put Try.underlying111 Try.underlying46 rfl _ _ _ rfl ml (n + 1 + k) (Wd.puts f1 (x.k.st.take k)) y.a y.v rfl rfl rfl (Hmr2.out.map.same (w' := V1.drew) rfl) HFY.out.1 HFY.out.2 (by unfold maxLen; omega) ?_; intro w3 hm3 hg3; have hW3 := WmAt.put Hmr2.out hm3 ((Tch.refl (fun k => k = ml) V1).drew.grown hg3 (fun k e => by cases e; exact .inl rfl)); have HW3 := Lib.hid hW3; have HT3 := Lib.hid (Ht2.out.trans ((Tch.refl (fun k => k = ml) V1).drew.grown hg3 (fun k e => by cases e; exact .inl rfl))); clear hW3 hm3 hg3)
            go_roundw
            case rel => exact ⟨k + 1, by omega, by go_num, by rw [puts_take f1 HY.out]; exact HW3.out, HT3.out⟩
            case measure => simp [intOf]; omega
          · obtain rfl : k = x.k.st.length := by omega
            have hfin := Hmr.out
            rw [List.take_length] at hfin
            have HFin := Lib.hid hfin; clear hfin
            go_wp2
            go_end0
            refine ⟨rfl, ?_, HT.out.trans Htr.out⟩
            rw [HRest.out]
            exact ⟨HFin.out.head, HFin.out.map.more (by omega), HFin.out.first⟩
end

end Go.Proofs.Ytgjbhcnadenojaa
