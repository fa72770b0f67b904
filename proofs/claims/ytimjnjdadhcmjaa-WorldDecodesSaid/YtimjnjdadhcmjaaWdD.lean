/- Decode beside the document's own: the law's walk. Conditions: the bytes that came in. -/
import Derived.Test.YtimjnjdadhcmjaaWdC
import Derived.Laws.StructEq
namespace Go.Proofs.Ytimjnjdadhcmjaa
open Go.RowKit Go.BigFrame

theorem eqFieldsA_step (d : Nat) (f : Field) (fs : List Field) (xs ys : Array Value) (a b : Value) (r : Bool) (w : World) (hn : f.name ≠ "_") (h1 : (part f.type xs f.offset).run Try.prog w = .ok a w) (h2 : (part f.type ys f.offset).run Try.prog w = .ok b w) (h3 : (Op.equalIn d f.type a b).run Try.prog w = .ok r w) :
    (Op.eqFields d xs ys (f :: fs)).run Try.prog w = if r then (Op.eqFields d xs ys fs).run Try.prog w else .ok false w := by
  simp only [Op.eqFields, if_pos hn, Sem.run_bind, h1, h2, h3, Result.andThen_ok]
  cases r <;> simp
set_option maxRecDepth 100000 in
theorem eq_act' (a b c a' b' c' : Int) (d : Nat) (w : World) : (Op.equalIn (d + 3) 26 (.agg #[.int .i64 a, .int .i64 b, .int .i64 c]) (.agg #[.int .i64 a', .int .i64 b', .int .i64 c'])).run Try.prog w = .ok (a == a' && (b == b' && c == c')) w := by
  rw [run_equalIn_agg w (d + 2) 26 _ _ (by kernel_rfl) Try.stoodInHeld26]
  rw [show (Try.prog.fieldsOf 26).toList = [{ name := "Kind", type := 3, offset := 0, embedded := false, tag := "", pkgPath := "", byteOffset := 0 }, { name := "Core", type := 3, offset := 1, embedded := false, tag := "", pkgPath := "", byteOffset := 8 }, { name := "N", type := 3, offset := 2, embedded := false, tag := "", pkgPath := "", byteOffset := 16 }] from by kernel_rfl]
  rw [eqFieldsA_step (d + 2) _ _ _ _ (.int .i64 a) (.int .i64 a') (a == a') w (by simp) (by kernel_rfl) (by kernel_rfl) (run_equalIn_int w (d + 1) 3 .i64 .i64 a a' Try.underlying3),
    eqFieldsA_step (d + 2) _ _ _ _ (.int .i64 b) (.int .i64 b') (b == b') w (by simp) (by kernel_rfl) (by kernel_rfl) (run_equalIn_int w (d + 1) 3 .i64 .i64 b b' Try.underlying3),
    eqFieldsA_step (d + 2) _ _ _ _ (.int .i64 c) (.int .i64 c') (c == c') w (by simp) (by kernel_rfl) (by kernel_rfl) (run_equalIn_int w (d + 1) 3 .i64 .i64 c c' Try.underlying3)]
  cases a == a' <;> cases b == b' <;> cases c == c' <;> simp [Op.eqFields]
@[local go_sem ↓ high] theorem eq_act (a b c : Int) (w : World) : (Op.equalIn 10000 26 (.agg #[.int .i64 a, .int .i64 b, .int .i64 c]) (.agg #[.int .i64 a, .int .i64 b, .int .i64 c])).run Try.prog w = .ok true w := by
  rw [show (10000 : Nat) = 9997 + 3 from rfl, eq_act']; simp

theorem acts_long (a : Option Addr) (len cap : Nat) (w : World) (h : 100000 < len) : Calls Try.prog 3 #[.slice a len cap] w fun e w' => e = .returned (.bool true) ∧ Below w.heap.size w w' := by
  have h1 : (100000 : Int) < len := by omega
  go_enter Try.func3, Try.ntmps3
  go_wp2
  go_ret
  exact ⟨rfl, Below.refl _ _⟩

theorem row_at {w : World} {lo g n cap : Nat} {l : List Ac} (h : w.ownsRow lo 26 3 (.slice (some ⟨g, 0, none⟩) n cap) n (flatA l)) {k : Nat} {x : Ac} (hx : l[k]? = some x) :
    w.cell? ⟨g, k * 3, none⟩ = some (.int .i64 x.kd) ∧ w.cell? ⟨g, k * 3 + 1, none⟩ = some (.int .i64 x.co) ∧ w.cell? ⟨g, k * 3 + 2, none⟩ = some (.int .i64 x.nn) :=
  ⟨(owns_cell h rfl (flatA_at l k x hx 0 _ rfl)).1, (owns_cell h rfl (flatA_at l k x hx 1 _ rfl)).1, (owns_cell h rfl (flatA_at l k x hx 2 _ rfl)).1⟩

set_option maxRecDepth 100000 in
set_option maxHeartbeats 4000000 in
theorem acts_short {a : Option Addr} {cap : Nat} {bs : List UInt8} (w : World) (hr : RowsIn w a 1 cell1 bs) (hcap : bs.length ≤ cap) (hln : bs.length ≤ 100000) :
    Calls Try.prog 3 #[.slice a bs.length cap] w fun e w' => e = .returned (.bool true) ∧ Below w.heap.size w w' := by
  have h1 : (bs.length : Int) ≤ 100000 := by omega
  have Hr := Lib.hid hr; clear hr
  have HD := Lib.hid (fun V hV => decodeA_any (a := a) (cap := cap) (bs := bs) V hV hcap (by omega))
  have HR := Lib.hid (fun V hV => rdecodeA_any (a := a) (cap := cap) (bs := bs) V hV hcap (by omega))
  have hln2 : (actsL bs).length ≤ 1000000 := by rw [actsL_len _ bs (Nat.le_refl _)]; omega
  generalize actsL bs = l at *
  go_enter Try.func3, Try.ntmps3
  go_wp2_with (go_at_call 4; refine (HD.out _ Hr.out).mono ?_; rintro e w1 ⟨v1, rfl, ho1, hb1⟩; refine Hid.out ?_)
  refine Lib.hid ?_
  have Ho1 := Lib.hid ho1
  have Hb1 := Lib.hid hb1
  have Hr1 := Lib.hid (Hr.out.below hb1); clear ho1 hb1
  go_wp2_with (go_at_call 5; refine (HR.out _ Hr1.out).mono ?_; rintro e w2 ⟨v2, rfl, ho2, hb2⟩; refine Hid.out ?_)
  refine Lib.hid ?_
  have Ho1 := Lib.hid (owns_same Ho1.out (w' := w2) (fun g e => hb2.block g (owns_lt Ho1.out e).2))
  have Hb2 := Lib.hid (Hb1.out.trans (hb2.mono Hb1.out.size))
  have hl1 := lenA Ho1.out
  have hl2 := lenA ho2
  have Ho2 := Lib.hid ho2; clear ho2 hb2 Hb1 Hr1
  go_wp2_with fail
  go_loopw [5] (fun i wr => ∃ k : Nat, k ≤ l.length ∧ i = .int .i64 k ∧ Below w2.heap.size w2 wr) (fun i _ => l.length - (intOf i).toNat)
  case atStart => exact ⟨0, by omega, by simp, Below.refl _ _⟩
  case round =>
    obtain ⟨k, hk, rfl, hbw⟩ := hrel
    have Hbw := Lib.hid hbw; clear hbw
    by_cases hlt : k < l.length
    · obtain ⟨x, hx⟩ : ∃ x, l[k]? = some x := ⟨l[k], List.getElem?_eq_getElem hlt⟩
      have o1 := owns_same Ho1.out (w' := wr) (fun g e => Hbw.out.block g (owns_lt Ho1.out e).2)
      have o2 := owns_same Ho2.out (w' := wr) (fun g e => Hbw.out.block g (owns_lt Ho2.out e).2)
      rcases owns_form o1 with ⟨-, h0, -⟩ | ⟨g1, c1, rfl, -⟩
      · omega
      rcases owns_form o2 with ⟨-, h0, -⟩ | ⟨g2, c2, rfl, -⟩
      · omega
      obtain ⟨r0, r1, r2⟩ := row_at o1 hx
      obtain ⟨s0, s1, s2⟩ := row_at o2 hx
      have hbk : (0 : Int) ≤ k ∧ (k : Int) < l.length := by omega
      obtain ⟨x0, x1, x2⟩ := x
      simp only at r0 r1 r2 s0 s1 s2
      clear hx o1 o2 hl1 hl2
      go_wp2_with fail
      go_quiet (fail)
      go_wp2
      go_roundw
      case rel => exact ⟨k + 1, by omega, by simp, below_drewN Hbw.out _⟩
      case measure => simp [intOf]; omega
    · obtain rfl : k = l.length := by omega
      have Hf := Lib.hid (Hb2.out.trans (Hbw.out.mono Hb2.out.size))
      go_wp2
      go_ret
      exact ⟨rfl, Hf.out⟩

/-- A byte's cell. -/
def byteKinds : List CK := [⟨0, .u8⟩]
theorem byte_mk (vs : List Value) (h : Fit byteKinds vs) : ∃ x : UInt8, cell1 x = vs ∧ True := by
  have h1 := h.1
  have h2 := h.2
  match vs, h1 with
  | [c0], _ =>
    obtain ⟨x0, rfl, w0⟩ := h2 0 _ _ rfl rfl
    have hb : 0 ≤ x0 ∧ x0 < 256 := by
      have : (Lit.int .u8 x0).wf = true := w0
      simp [Lit.wf, IntKind.min, IntKind.max, IntKind.signed, IntKind.bits] at this
      omega
    refine ⟨UInt8.ofNat x0.toNat, ?_, trivial⟩
    unfold cell1
    congr 2
    simp [UInt8.toNat_ofNat']
    omega

theorem acts_any (a : Option Addr) (len cap : Nat) (w : World) (hx : Came w a len byteKinds) (hc : len ≤ cap) :
    Calls Try.prog 3 #[.slice a len cap] w fun e w' => e = .returned (.bool true) ∧ Below w.heap.size w w' := by
  by_cases hl : 100000 < len
  · exact acts_long a len cap w hl
  · obtain ⟨xs, hxs, hr, _⟩ := rows_in (Pr := fun _ => True) hx (by simp [byteKinds]) byte_mk
    subst hxs
    exact acts_short w hr hc (by omega)

end Go.Proofs.Ytimjnjdadhcmjaa
