/- What any instruction asks for is what the document says: the law's walk. Conditions: the arguments are numbers of their kinds; the table lies as its initialiser lays it. -/
import Derived.Test.YtlppmjbfgclkgaaDoorIsaV
import Derived.Deep.RegionHeld3
namespace Go.Proofs.YtlppmjbfgclkgaaDoor
open Go.RowKit Go.BigFrame

theorem eqFields_step (d : Nat) (f : Field) (fs : List Field) (xs ys : Array Value) (a b : Value) (r : Bool) (w : World) (hn : f.name ≠ "_") (h1 : (part f.type xs f.offset).run Tryd.prog w = .ok a w) (h2 : (part f.type ys f.offset).run Tryd.prog w = .ok b w) (h3 : (Op.equalIn d f.type a b).run Tryd.prog w = .ok r w) :
    (Op.eqFields d xs ys (f :: fs)).run Tryd.prog w = if r then (Op.eqFields d xs ys fs).run Tryd.prog w else .ok false w := by
  simp only [Op.eqFields, if_pos hn, Sem.run_bind, h1, h2, h3, Result.andThen_ok]
  cases r <;> simp
set_option maxRecDepth 100000 in
theorem eq_ef' (a b c e f a' b' c' e' f' : Int) (d : Nat) (w : World) : (Op.equalIn (d + 3) 27 (.agg #[.int .i64 a, .int .i64 b, .int .i64 c, .int .u64 e, .int .u64 f]) (.agg #[.int .i64 a', .int .i64 b', .int .i64 c', .int .u64 e', .int .u64 f'])).run Tryd.prog w = .ok (a == a' && (b == b' && (c == c' && (e == e' && f == f')))) w := by
  rw [run_equalIn_agg w (d + 2) 27 _ _ (by kernel_rfl) Tryd.stoodInHeld27]
  rw [show (Tryd.prog.fieldsOf 27).toList = [{ name := "Kind", type := 3, offset := 0, embedded := false, tag := "", pkgPath := "", byteOffset := 0 }, { name := "Next", type := 3, offset := 1, embedded := false, tag := "", pkgPath := "", byteOffset := 8 }, { name := "Reg", type := 3, offset := 2, embedded := false, tag := "", pkgPath := "", byteOffset := 16 },
        { name := "Value", type := 24, offset := 3, embedded := false, tag := "", pkgPath := "", byteOffset := 24 }, { name := "Addr", type := 24, offset := 4, embedded := false, tag := "", pkgPath := "", byteOffset := 32 }] from by kernel_rfl]
  rw [eqFields_step (d + 2) _ _ _ _ (.int .i64 a) (.int .i64 a') (a == a') w (by simp) (by kernel_rfl) (by kernel_rfl) (run_equalIn_int w (d + 1) 3 .i64 .i64 a a' Tryd.underlying3),
    eqFields_step (d + 2) _ _ _ _ (.int .i64 b) (.int .i64 b') (b == b') w (by simp) (by kernel_rfl) (by kernel_rfl) (run_equalIn_int w (d + 1) 3 .i64 .i64 b b' Tryd.underlying3),
    eqFields_step (d + 2) _ _ _ _ (.int .i64 c) (.int .i64 c') (c == c') w (by simp) (by kernel_rfl) (by kernel_rfl) (run_equalIn_int w (d + 1) 3 .i64 .i64 c c' Tryd.underlying3),
    eqFields_step (d + 2) _ _ _ _ (.int .u64 e) (.int .u64 e') (e == e') w (by simp) (by kernel_rfl) (by kernel_rfl) (run_equalIn_int w (d + 1) 24 .u64 .u64 e e' Tryd.underlying24),
    eqFields_step (d + 2) _ _ _ _ (.int .u64 f) (.int .u64 f') (f == f') w (by simp) (by kernel_rfl) (by kernel_rfl) (run_equalIn_int w (d + 1) 24 .u64 .u64 f f' Tryd.underlying24)]
  cases a == a' <;> cases b == b' <;> cases c == c' <;> cases e == e' <;> cases f == f' <;> simp [Op.eqFields]
theorem eq_ef (a b c e f a' b' c' e' f' : Int) (w : World) : (Op.equalIn 10000 27 (.agg #[.int .i64 a, .int .i64 b, .int .i64 c, .int .u64 e, .int .u64 f]) (.agg #[.int .i64 a', .int .i64 b', .int .i64 c', .int .u64 e', .int .u64 f'])).run Tryd.prog w = .ok (a == a' && (b == b' && (c == c' && (e == e' && f == f')))) w := eq_ef' a b c e f a' b' c' e' f' 9997 w
@[local go_sem ↓ high] theorem eq_efv (a b c e f : Int) (w : World) : (Op.equalIn 10000 27 (.agg #[.int .i64 a, .int .i64 b, .int .i64 c, .int .u64 e, .int .u64 f]) (.agg #[.int .i64 a, .int .i64 b, .int .i64 c, .int .u64 e, .int .u64 f])).run Tryd.prog w = .ok true w := by
  rw [eq_ef]; simp

/-- Two boxes: an instruction, registers. -/
structure Bx2 (w : World) (N : Nat) (i : In) (x : L8) : Prop where
  b0 : Holds w N 23 i.cells
  b1 : Holds w (N + 1) 25 x.cells
theorem Bx2.below {w w' : World} {N : Nat} {i : In} {x : L8} (h : Bx2 w N i x) (hb : Below w.heap.size w w') : Bx2 w' N i x := ⟨h.b0.below hb, h.b1.below hb⟩

set_option maxRecDepth 100000 in
set_option maxHeartbeats 4000000 in
theorem isadoes_any (i : In) (x : L8) (pc : Int) (w : World) (hF : FormsAt w) (hx : x.Ok) : Calls Tryd.prog 3 #[i.val, x.val, .int .i64 pc] w fun e w' => e = .returned (.bool true) ∧ Below w.heap.size w w' := by
  have d1 := fun W hW => do_any i x pc W hW hx
  have d2 := fun W => rdo_any i x pc W hx
  have l1 := fun W hW => legal_any i W hW
  have l2 := fun W => rlegal_any i W
  generalize doP i x pc = z at *
  generalize legalP i = lg at *
  simp only [In.val, L8.val, Ef.value] at d1 d2 l1 l2
  have D1 := Lib.hid d1; clear d1
  have D2 := Lib.hid d2; clear d2
  have L1 := Lib.hid l1; clear l1
  have L2 := Lib.hid l2; clear l2
  have hbx : Bx2 (((w.alloc (.cells i.cells.toArray 23)).alloc (.cells x.cells.toArray 25))) w.heap.size i x := ⟨(Holds.new w _ _).alloc _, newAt (by simp) _ _⟩
  have hbw : Below w.heap.size w ((w.alloc (.cells i.cells.toArray 23)).alloc (.cells x.cells.toArray 25)) := (((Below.refl _ w).alloc (Nat.le_refl _) _).alloc (by simp) _)
  have hF2 := hF.below hbw
  have Hbx := Lib.hid hbx; clear hbx
  have Hbw := Lib.hid hbw; clear hbw
  have HF2 := Lib.hid hF2; clear hF2 hF
  obtain ⟨op, a, b, c, imm⟩ := i
  go_enter Tryd.func3, Tryd.ntmps3
  unfold In.val L8.val
  go_wp2_with fail
  simp only [In.cells, L8.cells] at Hbx Hbw HF2
  generalize (w.alloc (.cells #[.int .i64 op, .int .i64 a, .int .i64 b, .int .i64 c, .int .i64 imm] 23)).alloc (.cells #[.int .u64 x.x0, .int .u64 x.x1, .int .u64 x.x2, .int .u64 x.x3, .int .u64 x.x4, .int .u64 x.x5, .int .u64 x.x6, .int .u64 x.x7] 25) = w2 at *
  have hAll : ∀ V, Below w2.heap.size w2 V → (V.cell? ⟨w.heap.size, 0, none⟩ = some (.int .i64 op) ∧ V.cell? ⟨w.heap.size, 1, none⟩ = some (.int .i64 a) ∧ V.cell? ⟨w.heap.size, 2, none⟩ = some (.int .i64 b) ∧ V.cell? ⟨w.heap.size, 3, none⟩ = some (.int .i64 c) ∧ V.cell? ⟨w.heap.size, 4, none⟩ = some (.int .i64 imm)
      ∧ V.cell? ⟨w.heap.size + 1, 0, none⟩ = some (.int .u64 x.x0) ∧ V.cell? ⟨w.heap.size + 1, 1, none⟩ = some (.int .u64 x.x1) ∧ V.cell? ⟨w.heap.size + 1, 2, none⟩ = some (.int .u64 x.x2) ∧ V.cell? ⟨w.heap.size + 1, 3, none⟩ = some (.int .u64 x.x3) ∧ V.cell? ⟨w.heap.size + 1, 4, none⟩ = some (.int .u64 x.x4) ∧ V.cell? ⟨w.heap.size + 1, 5, none⟩ = some (.int .u64 x.x5) ∧ V.cell? ⟨w.heap.size + 1, 6, none⟩ = some (.int .u64 x.x6) ∧ V.cell? ⟨w.heap.size + 1, 7, none⟩ = some (.int .u64 x.x7)) := fun V hV =>
    have h := Hbx.out.below hV
    ⟨h.b0.cell (i := 0) rfl, h.b0.cell (i := 1) rfl, h.b0.cell (i := 2) rfl, h.b0.cell (i := 3) rfl, h.b0.cell (i := 4) rfl, h.b1.cell (i := 0) rfl, h.b1.cell (i := 1) rfl, h.b1.cell (i := 2) rfl, h.b1.cell (i := 3) rfl, h.b1.cell (i := 4) rfl, h.b1.cell (i := 5) rfl, h.b1.cell (i := 6) rfl, h.b1.cell (i := 7) rfl⟩
  have HAll := Lib.hid hAll; clear hAll
  have hD : Below w2.heap.size w2 w2.drew := below_drew1 (Below.refl _ w2)
  go_region_held3 (fun V => V.cell? ⟨w.heap.size, 0, none⟩ = some (.int .i64 op) ∧ V.cell? ⟨w.heap.size, 1, none⟩ = some (.int .i64 a) ∧ V.cell? ⟨w.heap.size, 2, none⟩ = some (.int .i64 b) ∧ V.cell? ⟨w.heap.size, 3, none⟩ = some (.int .i64 c) ∧ V.cell? ⟨w.heap.size, 4, none⟩ = some (.int .i64 imm) ∧ V.cell? ⟨w.heap.size + 1, 0, none⟩ = some (.int .u64 x.x0) ∧ V.cell? ⟨w.heap.size + 1, 1, none⟩ = some (.int .u64 x.x1) ∧ V.cell? ⟨w.heap.size + 1, 2, none⟩ = some (.int .u64 x.x2) ∧ V.cell? ⟨w.heap.size + 1, 3, none⟩ = some (.int .u64 x.x3) ∧ V.cell? ⟨w.heap.size + 1, 4, none⟩ = some (.int .u64 x.x4) ∧ V.cell? ⟨w.heap.size + 1, 5, none⟩ = some (.int .u64 x.x5) ∧ V.cell? ⟨w.heap.size + 1, 6, none⟩ = some (.int .u64 x.x6) ∧ V.cell? ⟨w.heap.size + 1, 7, none⟩ = some (.int .u64 x.x7)) (first | with_reducible exact HAll.out _ hD) (first | (go_at_call 10; (with_reducible refine (D1.out _ (HF2.out.below hD)).mono ?_); rintro e V ⟨rfl, hE⟩; replace hD := hD.trans (hE.mono hD.size)) | (go_at_call 11; (with_reducible refine (D2.out _).mono ?_); rintro e V ⟨rfl, hE⟩; replace hD := hD.trans (hE.mono hD.size)) | (go_at_call 12; (with_reducible refine (L1.out _ (HF2.out.below hD)).mono ?_); rintro e V ⟨rfl, hE⟩; replace hD := hD.trans (hE.mono hD.size)) | (go_at_call 13; (with_reducible refine (L2.out _).mono ?_); rintro e V ⟨rfl, hE⟩; replace hD := hD.trans (hE.mono hD.size)))
  have hbb := Hbw.out.trans (hD.mono Hbw.out.size)
  have Hbb := Lib.hid hbb; clear hbb
  go_wp2
  refine bodyPost_ret (results_tmp rfl _ _ _) rfl ⟨?_, Hbb.out⟩
  simp

end Go.Proofs.YtlppmjbfgclkgaaDoor
