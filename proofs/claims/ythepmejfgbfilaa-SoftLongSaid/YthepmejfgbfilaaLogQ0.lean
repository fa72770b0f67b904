/- The document's answer's small functions: Place, Value, Twin, Same. Conditions: those stated in each theorem. -/
import Derived.Test.YthepmejfgbfilaaLogH0
import Derived.Test.YthepmejfgbfilaaPairEq0
namespace Go.Proofs.Ythepmejfgbfilaa
open Go.RowKit Go.BigFrame Go.Maps

theorem add_mk (q c : Nat) (n : Nat) : (⟨q, c, none⟩ : Addr).add n = ⟨q, c + n, none⟩ := by unfold Addr.add; split <;> simp_all
theorem grow_k {l : List Pr} {p : Pr → Prop} {i : Nat} {x : Pr} (h : ∀ k y, k < i → l[k]? = some y → p y) (hx : l[i]? = some x) (hp : p x) : ∀ k y, k < i + 1 → l[k]? = some y → p y := fun k y hk hy => by
  by_cases hki : k = i
  · subst hki; rw [hx] at hy; cases hy; exact hp
  · exact h k y (by omega) hy
def plc (l : List Pr) (a : Int) : Int := match posL l a with | some i => (i : Nat) | none => -1
theorem rows_cells {w : World} {q c : Nat} {l : List Pr} (h : RowsIn w (some ⟨q, c, none⟩) 2 Pr.cells l) {k : Nat} {x : Pr} (hx : l[k]? = some x) : w.cell? ⟨q, c + k * 2, none⟩ = some (.int .i64 x.a) ∧ w.cell? ⟨q, c + k * 2 + 1, none⟩ = some (.int .u64 x.v) := by
  obtain ⟨q', c', e, _, hr⟩ := h.row hx
  cases e
  exact ⟨by have := hr 0 _ rfl; rwa [Nat.add_zero] at this, hr 1 _ rfl⟩
theorem rows_some {w : World} {ad : Option Addr} {l : List Pr} (h : RowsIn w ad 2 Pr.cells l) (hl : 0 < l.length) : ∃ q c, ad = some ⟨q, c, none⟩ := by
  rcases h with rfl | ⟨q, c, rfl, _⟩
  · simp at hl
  · exact ⟨q, c, rfl⟩

set_option maxHeartbeats 1000000 in
theorem plc_any (w : World) (ad : Option Addr) (cap : Nat) (l : List Pr) (h : RowsIn w ad 2 Pr.cells l) (hl : l.length ≤ 100000) (a : Int) :
    Calls Try.prog 85 #[.slice ad l.length cap, .int .i64 a] w fun e w' => e = .returned (.int .i64 (plc l a)) ∧ w = w' := by
  have H := Lib.hid h; clear h
  go_enter Try.func85, Try.ntmps85
  go_wp2
  go_loopw [5] (fun i wr => wr = w ∧ ∃ k : Nat, k ≤ l.length ∧ i = .int .i64 k ∧ ∀ j y, j < k → l[j]? = some y → y.a ≠ a) (fun i _ => l.length - (intOf i).toNat)
  case atStart => exact ⟨rfl, 0, by omega, rfl, fun j y h => by omega⟩
  case round =>
    obtain ⟨rfl, k, hk, rfl, hn⟩ := hrel
    have Hn := Lib.hid hn; clear hn
    by_cases hlt : k < l.length
    · obtain ⟨x, hxk⟩ : ∃ x, l[k]? = some x := ⟨_, List.getElem?_eq_getElem hlt⟩
      obtain ⟨q, c, rfl⟩ := rows_some H.out (by omega)
      obtain ⟨q0, -⟩ := rows_cells H.out hxk
      have Hxk := Lib.hid hxk; clear hxk
      by_cases ha : x.a = a
      · have b0 : (x.a == a) = true := by simp [ha]
        have hp : plc l a = (k : Nat) := by
          have : posL l a = some k := by
            unfold posL
            rw [List.findIdx?_eq_some_iff_getElem]
            obtain ⟨hi, e⟩ := List.getElem?_eq_some_iff.1 Hxk.out
            exact ⟨hi, by rw [e]; exact b0, fun j hj => by have := Hn.out j _ hj (List.getElem?_eq_getElem (by omega)); simpa using this⟩
          unfold plc; rw [this]
        have Hp := Lib.hid hp; clear hp ha
        go_wp2
        go_ret
        exact ⟨by rw [Hp.out]; rfl, rfl⟩
      · have b0 : (x.a == a) = false := by simp [ha]
        have Ha := Lib.hid ha; clear ha
        go_wp2
        go_roundw
        case rel => exact ⟨trivial, k + 1, by omega, by go_num, grow_k (p := fun y => y.a ≠ a) Hn.out Hxk.out Ha.out⟩
        case measure => simp [intOf]; omega
    · have : k = l.length := by omega
      subst this
      have hp : plc l a = -1 := by
        have : posL l a = none := posL_none.2 (fun y hy => by
          obtain ⟨j, hj, rfl⟩ := List.mem_iff_getElem.1 hy
          exact Hn.out j _ hj (List.getElem?_eq_getElem hj))
        unfold plc; rw [this]
      have Hp := Lib.hid hp; clear hp
      go_wp2
      go_ret
      exact ⟨by rw [Hp.out]; rfl, rfl⟩

set_option maxHeartbeats 1000000 in
theorem rvalue_any (w : World) (ad : Option Addr) (cap : Nat) (l : List Pr) (h : RowsIn w ad 2 Pr.cells l) (hl : l.length ≤ 100000) (a : Int) :
    Calls Try.prog 58 #[.slice ad l.length cap, .int .i64 a] w fun e w' => e = .returned (.tuple #[.int .u64 (valL l a), .bool (hasL l a)]) ∧ w = w' := by
  have HP := Lib.hid (plc_any w ad cap l h hl a)
  unfold plc at HP
  cases hp : posL l a with
  | none =>
    rw [hp] at HP
    rw [show valL l a = 0 from by simp [valL, hp], show hasL l a = false from by simp [hasL, hp]]
    clear h hp
    go_enter Try.func58, Try.ntmps58
    go_wp2_with (go_at_call 85; refine HP.out.mono ?_; rintro e w' ⟨rfl, rfl⟩)
    go_ret2
    exact ⟨rfl, rfl⟩
  | some i =>
    rw [hp] at HP
    obtain ⟨x, hx, -⟩ := posL_at hp
    have hi := posL_lt hp
    rw [valL_at hp hx, show hasL l a = true from by simp [hasL, hp]]
    obtain ⟨q, c, rfl⟩ := rows_some h (by omega)
    obtain ⟨-, q1⟩ := rows_cells h hx
    clear h hp hx
    have dn : decide ((i : Int) < 0) = false := by simp
    go_enter Try.func58, Try.ntmps58
    go_wp2_with (go_at_call 85; refine HP.out.mono ?_; rintro e w' ⟨rfl, rfl⟩)
    go_ret2
    exact ⟨rfl, rfl⟩

theorem flatP_at {w : World} {q c : Nat} {l : List Pr} (h : RowsIn w (some ⟨q, c, none⟩) 2 Pr.cells l) : ∀ j u, (flatP l)[j]? = some u → w.cell? ((⟨q, c, none⟩ : Addr).add j) = some u := by
  intro j u hu
  have hj : j < (flatP l).length := (List.getElem?_eq_some_iff.1 hu).1
  rw [flatP_length] at hj
  obtain ⟨x, hx⟩ : ∃ x, l[j / 2]? = some x := ⟨l[j / 2]'(by omega), List.getElem?_eq_getElem _⟩
  obtain ⟨h0, h1⟩ := rows_cells h hx
  rw [add_mk]
  rcases Nat.mod_two_eq_zero_or_one j with hm | hm
  · have e : j = 2 * (j / 2) := by omega
    rw [e, flatP_a hx] at hu; cases hu
    rw [show c + j = c + j / 2 * 2 from by omega]; exact h0
  · have e : j = 2 * (j / 2) + 1 := by omega
    rw [e, flatP_v hx] at hu; cases hu
    rw [show c + j = c + j / 2 * 2 + 1 from by omega]; exact h1
theorem flatP_one (l : List Pr) : ∀ u ∈ flatP l, u.oneCell' = true := by
  intro u hu
  obtain ⟨x, _, hx⟩ := List.mem_flatMap.1 hu
  simp [Pr.cells] at hx
  rcases hx with rfl | rfl <;> simp [Value.oneCell']

set_option maxHeartbeats 1000000 in
theorem twin_any (w : World) (ad : Option Addr) (cap : Nat) (l : List Pr) (h : RowsIn w ad 2 Pr.cells l) (hl : l.length ≤ 100000) (had : ∀ b, ad = some b → b.spot = none) :
    Calls Try.prog 86 #[.slice ad l.length cap] w fun e w' => ∃ v, e = .returned v ∧ RowL w' w.heap.size v l ∧ Below w.heap.size w w' := by
  obtain ⟨i0, hi, hz0, hz1, hz2⟩ := info_parts Try.infoPair
  have HI := Lib.hid hi; clear hi
  have HZ0 := Lib.hid hz0; clear hz0
  have HZ1 := Lib.hid hz1; clear hz1
  have HZ2 := Lib.hid hz2; clear hz2
  have hfl : (flatP l).length = l.length * 2 := by rw [flatP_length, Nat.mul_comm]
  cases ad with
  | none =>
    have hl0 : l = [] := by
      rcases h with h | ⟨q, c, e, _⟩
      · exact h
      · cases e
    subst hl0
    go_enter Try.func86, Try.ntmps86
    go_wp2
    go_ret
    exact ⟨_, rfl, World.ownsRow_nil _ _ _ _, Below.refl _ _⟩
  | some b =>
    obtain ⟨q, c, s⟩ := b
    have hs : s = none := had _ rfl
    subst hs
    have Hat := Lib.hid (flatP_at h)
    have Hone := Lib.hid (flatP_one l)
    have Hfl := Lib.hid hfl; clear hfl h
    go_enter Try.func86, Try.ntmps86
    go_wp2_with (at_builtin; refine wpList_append_own_at _ rfl _ _ 27 rfl w.heap.size 84 i0 _ 2 16 Try.underlying27 HI.out HZ0.out HZ1.out HZ2.out rfl (by decide) (.slice none 0 0) 0 [] rfl (World.ownsRow_nil _ _ _ _) ⟨q, c, none⟩ l.length cap (flatP l) rfl Hfl.out Hat.out Hone.out (by unfold maxLen; omega) (by omega) (Nat.le_refl _) ?_; intro v5 w5 hown5 hgrow5 hnil5 hat5; have Hown5 := Lib.hid hown5; have Hgrow5 := Lib.hid hgrow5; clear hown5 hgrow5 hnil5 hat5)
    go_ret
    refine ⟨_, rfl, ?_, (Below.refl _ _).grown Hgrow5.out (Nat.le_refl _) (fun k e => by cases e)⟩
    have := Hown5.out
    rwa [Nat.zero_add, List.nil_append] at this

set_option maxHeartbeats 2000000 in
theorem same_yes (w : World) (ad bd : Option Addr) (cap cap2 : Nat) (l : List Pr) (h : RowsIn w ad 2 Pr.cells l) (h2 : RowsIn w bd 2 Pr.cells l) (hl : l.length ≤ 100000) :
    Calls Try.prog 64 #[.slice ad l.length cap, .slice bd l.length cap2] w fun e w' => e = .returned (.bool true) ∧ ∃ n, w.drewN n = w' := by
  have H := Lib.hid h; clear h
  have H2 := Lib.hid h2; clear h2
  go_enter Try.func64, Try.ntmps64
  go_wp2
  go_loopw [5] (fun i wr => (∃ n, w.drewN n = wr) ∧ ∃ k : Nat, k ≤ l.length ∧ i = .int .i64 k) (fun i _ => l.length - (intOf i).toNat)
  case atStart => exact ⟨⟨0, rfl⟩, 0, by omega, rfl⟩
  case round =>
    obtain ⟨⟨n, hn⟩, k, hk, rfl⟩ := hrel
    by_cases hlt : k < l.length
    · obtain ⟨x, hxk⟩ : ∃ x, l[k]? = some x := ⟨_, List.getElem?_eq_getElem hlt⟩
      obtain ⟨q, c, rfl⟩ := rows_some H.out (by omega)
      obtain ⟨q2, c2, rfl⟩ := rows_some H2.out (by omega)
      obtain ⟨p0, p1⟩ := rows_cells H.out hxk
      obtain ⟨r0, r1⟩ := rows_cells H2.out hxk
      have p0 : wr.cell? ⟨q, c + k * 2, none⟩ = some (.int .i64 x.a) := by rw [← hn]; exact p0
      have p1 : wr.cell? ⟨q, c + k * 2 + 1, none⟩ = some (.int .u64 x.v) := by rw [← hn]; exact p1
      have r0 : wr.cell? ⟨q2, c2 + k * 2, none⟩ = some (.int .i64 x.a) := by rw [← hn]; exact r0
      have r1 : wr.cell? ⟨q2, c2 + k * 2 + 1, none⟩ = some (.int .u64 x.v) := by rw [← hn]; exact r1
      have Hn := Lib.hid hn; clear hn hxk
      go_wp2
      go_quiet (fail)
      have HZ : Hid (∃ n, w.drewN n = wr.drewN nq) := Lib.hid ⟨n + nq, by rw [← Hn.out]; simp [World.drewN, Nat.add_assoc]⟩
      generalize wr.drewN nq = V1 at *
      go_wp2
      go_roundw
      case rel => exact ⟨HZ.out, k + 1, by omega, by go_num⟩
      case measure => simp [intOf]; omega
    · have : k = l.length := by omega
      subst this
      have Hn := Lib.hid hn; clear hn
      go_wp2
      go_ret
      exact ⟨rfl, n, Hn.out⟩

end Go.Proofs.Ythepmejfgbfilaa
