/- do, kind 7 and the others. Conditions: those stated in each theorem. -/
import Derived.Test.YtfngfphoefpndaaLogY
namespace Go.Proofs.Ytfngfphoefpndaa
open Go.RowKit Go.BigFrame Go.Maps Go.ChangeShapes Go.WideShapes Go.ChangeAt Go.Deep

theorem pr_mk (vs : List Value) (h : Fit pairKinds vs) : ∃ x : Pr, x.cells = vs ∧ True := by
  obtain ⟨h1, h2⟩ := h
  match vs, h1 with
  | [a, b], _ =>
    obtain ⟨n0, rfl, _⟩ := h2 0 _ _ rfl rfl
    obtain ⟨n1, rfl, _⟩ := h2 1 _ _ rfl rfl
    exact ⟨⟨n0, n1⟩, rfl, trivial⟩
theorem prs_in {w : World} {a : Option Addr} {len : Nat} (h : Came w a len pairKinds) : ∃ xs : List Pr, xs.length = len ∧ RowsIn w a 2 Pr.cells xs := by
  obtain ⟨xs, h1, h2, _⟩ := rows_in h (by simp [pairKinds]) pr_mk
  exact ⟨xs, h1, h2⟩
theorem RowsIn.front {w : World} {ad : Option Addr} {l m : List Pr} (h : RowsIn w ad 2 Pr.cells (l ++ m)) : RowsIn w ad 2 Pr.cells l := by
  rcases h with h | ⟨q, c, rfl, h1, h2⟩
  · exact .inl (List.append_eq_nil_iff.1 h).1
  · exact .inr ⟨q, c, rfl, h1, fun k x hx => h2 k x (by rw [List.getElem?_append_left (List.getElem?_eq_some_iff.1 hx).1]; exact hx)⟩

/-- An append whose guard stands. -/
theorem wpList_append_wanted {P : Program} {ops : Array Oper} {rest : List Oper} {o : Oper} {a : Act} {w : World} {Q : Exit → Act → World → Prop} (hw : Region.wanted o (yielded ops a.tmps) = true) (s x : Operand) (t : TypeId)
    (ho : o.op = .call { callee := .builtin .append, args := #[s, x], argTypes := #[t, t] })
    (base : Nat) (e : TypeId) (i : TypeInfo) (z : Value) (size bytes : Nat) (ht : P.underlying t = some (.slice e)) (hi : P.info? e = some i) (hz : i.zero = some z)
    (hsize : i.size = size) (hby : i.bytes = bytes) (hzs : z.cells.size = size) (hsz : 0 < size)
    (v : Value) (n : Nat) (xs : List Value) (hs : a.eval s = v) (hown : w.ownsRow base e size v n xs)
    (ad : Addr) (m c : Nat) (news : List Value) (hx : a.eval x = .slice (some ad) m c) (hl : news.length = m * size) (hnews : ∀ j u, news[j]? = some u → w.cell? (ad.add j) = some u) (h1 : ∀ u ∈ news, u.oneCell' = true)
    (h63 : n + m ≤ maxLen) (hbytes : (n + m) * bytes ≤ 140737488355328) (hbase : base ≤ w.heap.size)
    (h : ∀ v' w', w'.ownsRow base e size v' (n + m) (xs ++ news) → w.grownBy w' v.ownBlock → wpList P ops Q rest (a.put o.dst v') w') : wpList P ops Q (o :: rest) a w := by
  refine wpList_step fun K hK => ?_
  rw [if_pos hw]
  obtain ⟨v', w', hr, h2, h3, h4, h5⟩ := run_append_own_at (P := P) w base t o.type e i z size bytes ht hi hz hsize hby hzs hsz v n xs hown ad m c news hl hnews h1 h63 hbytes hbase
  unfold Oper.wp execOp
  simp only [ho, resolve, invoke, builtin, Sem.run_bind, Sem.run_pure, Result.andThen_ok, List.map_toArray, List.map_cons, List.map_nil, hs, hx, hr]
  exact hK _ _ (h v' w' h2 h3)
theorem owns_cap {w : World} {lo n m cap : Nat} {e : TypeId} {size : Nat} {ad : Option Addr} {xs : List Value} (h : w.ownsRow lo e size (.slice ad m cap) n xs) (hn : 0 < n) : n ≤ cap := by
  rcases h.2 with ⟨_, h0⟩ | ⟨g, c, cur, hv, _, _, h1, _⟩
  · omega
  · cases hv; exact h1

set_option maxHeartbeats 1000000 in
theorem twin_all (w : World) (ad : Option Addr) (cap : Nat) (l : List Pr) (h : RowsIn w ad 2 Pr.cells l) (hl : l.length ≤ 100000) :
    Calls Try.prog 29 #[.slice ad l.length cap] w fun e w' => ∃ v, e = .returned v ∧ RowL w' w.heap.size v l ∧ Below w.heap.size w w' := by
  by_cases h0 : l = []
  · subst h0
    cases ad with
    | none => exact twin_any w none cap [] h (by simp) (fun b e => by cases e)
    | some b =>
      obtain ⟨i0, hi, hz0, hz1, hz2⟩ := info_parts Try.infoPair
      have HI := Lib.hid hi; clear hi
      have HZ0 := Lib.hid hz0; clear hz0
      have HZ1 := Lib.hid hz1; clear hz1
      have HZ2 := Lib.hid hz2; clear hz2
      clear h hl
      go_enter Try.func29, Try.ntmps29
      go_wp2_with (at_builtin; refine wpList_append_own_at _ rfl _ _ 26 rfl w.heap.size 48 i0 _ 2 16 Try.underlying26 HI.out HZ0.out HZ1.out HZ2.out rfl (by decide) (.slice none 0 0) 0 [] rfl (World.ownsRow_nil _ _ _ _) b 0 cap [] rfl rfl (fun j u hu => by simp at hu) (fun u hu => by simp at hu) (by unfold maxLen; omega) (by omega) (Nat.le_refl _) ?_; intro v5 w5 hown5 hgrow5 hnil5 hat5; have Hown5 := Lib.hid hown5; have Hgrow5 := Lib.hid hgrow5; clear hown5 hgrow5 hnil5 hat5)
      go_ret
      exact ⟨_, rfl, Hown5.out, (Below.refl _ _).grown Hgrow5.out (Nat.le_refl _) (fun k e => by cases e)⟩
  · obtain ⟨q, c, rfl⟩ := rows_some h (List.length_pos_iff.2 h0)
    exact twin_any w _ cap l h hl (fun b e => by cases e; rfl)

section
variable {w0 w : World} {L : List Value} {a q t n : Nat} {f : Lg}

set_option maxRecDepth 100000 in
set_option maxHeartbeats 4000000 in
theorem do_7 (h : PSt w0 w none L a q t f f n) (x : OpV) (hk : x.kind = 7) (now : List Pr) (hnow : RowsIn w x.nad 2 Pr.cells now) (hnl : now.length = x.nlen) (h300 : now.length ≤ 300) :
    Calls Try.prog 11 #[.pointer (some ⟨a, 0, none⟩), .pointer (some ⟨q, 0, none⟩), .agg x.cells.toArray, .pointer (some ⟨t, 0, none⟩)] w (DP w0 a q t (stepL f x) n) := by
  rw [show stepL f x = f from by simp [stepL, hk]]
  have HL := Lib.hid h.fit.2.2.1
  have H := Lib.hid (h.box x.cells)
  have c0 := H.out.cell (i := 0) rfl
  have c3 := H.out.cell (i := 3) rfl
  rw [hk] at c0
  clear h
  obtain ⟨kd, i, v, nad, nlen, ncap⟩ := x
  simp only at hk hnow hnl
  subst hk hnl
  simp only [OpV.cells] at *
  have hnW := hnow.below ((Below.refl _ w).alloc (Nat.le_refl _) (.cells #[.int .i64 7, .int .i64 i, .int .u64 v, .slice nad now.length ncap] 35))
  have HT := Lib.hid (twin_all _ nad ncap now hnW (by omega))
  have HN := Lib.hid hnW
  clear hnow hnW
  obtain ⟨i0, hi, hz0, hz1, hz2⟩ := info_parts Try.infoPair
  have HI := Lib.hid hi; clear hi
  have HZ0 := Lib.hid hz0; clear hz0
  have HZ1 := Lib.hid hz1; clear hz1
  have HZ2 := Lib.hid hz2; clear hz2
  go_enter Try.func11, Try.ntmps11
  go_wp2_with fail
  generalize w.alloc (.cells #[.int .i64 7, .int .i64 i, .int .u64 v, .slice nad now.length ncap] 35) = W at *
  generalize w.heap.size = X at *
  refine HT.out.mono ?_
  rintro e w1 ⟨v1, rfl, hr1, hb1⟩
  have Hr1 := Lib.hid hr1; clear hr1
  have Hb1 := Lib.hid hb1; clear hb1
  have hs1 := Hb1.out.size
  go_wp2_with (first
    | (at_builtin; refine wpList_append_own_at _ rfl _ _ 26 rfl W.heap.size 48 i0 _ 2 16 Try.underlying26 HI.out HZ0.out HZ1.out HZ2.out rfl (by decide) v1 now.length (flatP now) rfl (World.ownsRow.alloc Hr1.out _) ⟨w1.heap.size, 0, none⟩ 1 1 [.int .i64 1, .int .u64 1] rfl rfl (World.news_of_block (t := 48) (fr := (0, 0)) (new_block w1 _)) (by simp [Value.oneCell']) (by unfold maxLen; omega) (by omega) (by simp; omega) ?_; intro v5 w5 hown5 hgrow5 hnil5 hat5; obtain ⟨g5, cap5, rfl, -, -⟩ := hown5.form (by omega); have hcc := owns_cap hown5 (by omega); have g1 : now.length ≤ cap5 := (by omega); have j1 : (now.length : Int) ≤ (cap5 : Int) := (by omega); have j2 : 0 ≤ (now.length : Int) ∧ (now.length : Int) ≤ (cap5 : Int) := (by omega); have hb5 : Below W.heap.size W w5 := (Hb1.out.alloc Hb1.out.size _).grown hgrow5 (Nat.le_trans Hb1.out.size (by simp)) (fun k e => (Hr1.out.lt e).1); have e3 := (H.out.idle hb5).cell (i := 3) rfl; have hr5 : RowL w5 W.heap.size (.slice (some ⟨g5, 0, none⟩) (now.length + 1) cap5) (now ++ [⟨1, 1⟩]) := (by unfold RowL; rw [flatP_snoc, List.length_append]; exact hown5); have Hr5 := Lib.hid hr5; have Hb5 := Lib.hid hb5; obtain ⟨ad6, cap6, e6, hr6, -⟩ := hr5.rows; rw [List.length_append, List.length_singleton] at e6; cases e6; have hB5 := broken_p (H.out.idle hb5) (some ⟨g5, 0, none⟩) cap5 now (RowsIn.front hr6) (by omega); unfold BrkAns at hB5; have HB5 := Lib.hid hB5; have HR5 := Lib.hid hr6; clear hown5 hgrow5 hnil5 hat5 hb5 hr5 hcc hB5 hr6)
    | (go_at_call 20; refine HB5.out.mono ?_; rintro e w6 ⟨rfl, hb6⟩; have hw6 : Below W.heap.size W w6 := Hb5.out.trans (hb6.mono Hb5.out.size); have hD6 := H.out.idle hw6; have n3 := hD6.cell (i := 3) rfl; have hN6 := HN.out.below hw6; have hQ6 := rbroken_p hD6 HL.out nad ncap now hN6 (by omega); unfold BrkAns at hQ6; have HQ6 := Lib.hid hQ6; have HT6 := Lib.hid (twin_all w6 nad ncap now hN6 (by omega)); have HR6 := Lib.hid (HR5.out.below hb6); have HD6 := Lib.hid hD6; have hs6 := hb6.size; clear hb6 hw6 hD6 hN6 hQ6)
    | (go_at_call 30; refine HQ6.out.mono ?_; rintro e w7 ⟨rfl, rfl⟩))
  refine HT6.out.mono ?_
  rintro e w8 ⟨v8, rfl, hr8, hb8⟩
  have Hr8 := Lib.hid hr8; clear hr8
  have Hb8 := Lib.hid hb8; clear hb8
  have hs8 := Hb8.out.size
  go_wp2_with (first
    | (at_builtin; refine wpList_append_wanted (by rfl) _ _ 26 rfl w6.heap.size 48 i0 _ 2 16 Try.underlying26 HI.out HZ0.out HZ1.out HZ2.out rfl (by decide) v8 now.length (flatP now) rfl (World.ownsRow.alloc Hr8.out _) ⟨w8.heap.size, 0, none⟩ 1 1 [.int .i64 1, .int .u64 1] rfl rfl (World.news_of_block (t := 48) (fr := (0, 0)) (new_block w8 _)) (by simp [Value.oneCell']) (by unfold maxLen; omega) (by omega) (by simp; omega) ?_; intro v9 w9 hown9 hgrow9; obtain ⟨g9, cap9, rfl, -, -⟩ := hown9.form (by omega); have hb9 : Below w6.heap.size w6 w9 := (Hb8.out.alloc Hb8.out.size _).grown hgrow9 (Nat.le_trans Hb8.out.size (by simp)) (fun k e => (Hr8.out.lt e).1); have hr9 : RowL w9 w6.heap.size (.slice (some ⟨g9, 0, none⟩) (now.length + 1) cap9) (now ++ [⟨1, 1⟩]) := (by unfold RowL; rw [flatP_snoc, List.length_append]; exact hown9); obtain ⟨ad9, cap99, e9, hr99, -⟩ := hr9.rows; rw [List.length_append, List.length_singleton] at e9; cases e9; have hS := same_yes w9 (some ⟨g5, 0, none⟩) (some ⟨g9, 0, none⟩) cap5 cap9 (now ++ [⟨1, 1⟩]) (HR6.out.below hb9) hr99 (by simp; omega); rw [List.length_append, List.length_singleton] at hS; have HS := Lib.hid hS; have Hb9 := Lib.hid hb9; clear hown9 hgrow9 hb9 hr9 hr99 hS)
    | (go_at_call 12; refine HS.out.mono ?_; rintro e w10 ⟨rfl, n2, hn2⟩; have HE : Hid (PSt w0 w10 (some X) [.int .i64 7, .int .i64 i, .int .u64 v, .slice nad now.length ncap] a q t f f n) := Lib.hid (hn2 ▸ (HD6.out.idle Hb9.out).idle (below_drewN (Below.refl _ _) n2)); clear hn2))
  go_ret
  exact HE.out.post (by omega) (by simp)

set_option maxRecDepth 100000 in
set_option maxHeartbeats 2000000 in
theorem do_8 (h : PSt w0 w none L a q t f f n) (x : OpV) (hk : x.kind ≠ 0 ∧ x.kind ≠ 1 ∧ x.kind ≠ 2 ∧ x.kind ≠ 3 ∧ x.kind ≠ 4 ∧ x.kind ≠ 5 ∧ x.kind ≠ 6 ∧ x.kind ≠ 7) :
    Calls Try.prog 11 #[.pointer (some ⟨a, 0, none⟩), .pointer (some ⟨q, 0, none⟩), .agg x.cells.toArray, .pointer (some ⟨t, 0, none⟩)] w (DP w0 a q t (stepL f x) n) := by
  obtain ⟨h0, h1, h2, h3, h4, h5, h6, h7⟩ := hk
  have b0 : (x.kind == 0) = false := by simp [h0]
  have b1 : (x.kind == 1) = false := by simp [h1]
  have b2 : (x.kind == 2) = false := by simp [h2]
  have b3 : (x.kind == 3) = false := by simp [h3]
  have b4 : (x.kind == 4) = false := by simp [h4]
  have b5 : (x.kind == 5) = false := by simp [h5]
  have b6 : (x.kind == 6) = false := by simp [h6]
  have b7 : (x.kind == 7) = false := by simp [h7]
  rw [show stepL f x = f from by simp [stepL, b0, b1, b2]]
  have H := Lib.hid (h.box x.cells)
  have c0 := H.out.cell (i := 0) rfl
  clear h h0 h1 h2 h3 h4 h5 h6 h7
  obtain ⟨kd, i, v, nad, nlen, ncap⟩ := x
  simp only [OpV.cells] at *
  go_enter Try.func11, Try.ntmps11
  go_wp2
  go_ret
  exact H.out.post (by omega) (by simp)

/-- A call of do, whatever it is. -/
theorem do_any (h : PSt w0 w none L a q t f f n) (hn : n ≤ 100000) (x : OpV) (hx : x.ok w0) (h300 : x.nlen ≤ 300) :
    Calls Try.prog 11 #[.pointer (some ⟨a, 0, none⟩), .pointer (some ⟨q, 0, none⟩), .agg x.cells.toArray, .pointer (some ⟨t, 0, none⟩)] w (DP w0 a q t (stepL f x) n) := by
  by_cases h0 : x.kind = 0
  · exact do_0 h x hx.1 h0
  by_cases h1 : x.kind = 1
  · exact do_1 h x hx.1 h1
  by_cases h2 : x.kind = 2
  · exact do_2 h x h2
  by_cases h3 : x.kind = 3
  · exact do_3 h x hx.1 h3
  by_cases h4 : x.kind = 4
  · exact do_4 h x hx.1 h4
  by_cases h5 : x.kind = 5
  · exact do_5 h hn x h5
  by_cases h6 : x.kind = 6
  · exact do_6 h hn x h6
  by_cases h7 : x.kind = 7
  · obtain ⟨now, hl, hr⟩ := prs_in hx.2.2
    exact do_7 h x h7 now (by
      rcases hr with hr | ⟨q, c, e, h1, h2⟩
      · exact .inl hr
      · exact .inr ⟨q, c, e, Nat.lt_of_lt_of_le h1 h.below.size, fun k y hy i u hu => (World.cell?_of_block (a := ⟨q, c + k * 2 + i, none⟩) (h.below.block q h1)).trans (h2 k y hy i u hu)⟩) hl (by omega)
  exact do_8 h x ⟨h0, h1, h2, h3, h4, h5, h6, h7⟩
end

end Go.Proofs.Ytfngfphoefpndaa
