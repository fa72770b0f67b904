/- hist: Split. Conditions: those stated in each theorem. -/
import Derived.Test.YtgjbhcnadenojaaHisY
namespace Go.Proofs.Ytgjbhcnadenojaa
open Go.RowKit Go.BigFrame Go.Maps

/-- An attempt's cells, as they are told. -/
def KC.att (x : KC) : List Value := [.int .i64 x.k.co, .int .i64 x.k.bl, .int .i64 x.k.tr, .int .i64 x.k.la, .int .i64 x.k.fr, .int .i64 x.k.pt, .int .i64 x.k.to_, x.lv, x.sv, .bool x.k.com, .int .i64 x.k.cd]
def flatA (l : List KC) : List Value := l.flatMap KC.att
theorem flatA_length (l : List KC) : (flatA l).length = 11 * l.length := by
  induction l with
  | nil => rfl
  | cons x l ih => simp only [flatA, List.flatMap_cons, List.length_append, List.length_cons] at *; simp only [KC.att, List.length_cons, List.length_nil]; omega
theorem flatA_at {l : List KC} {i : Nat} {x : KC} (h : l[i]? = some x) {j : Nat} {v : Value} (hv : x.att[j]? = some v) : (flatA l)[i * 11 + j]? = some v := by
  have hj : j < 11 := (List.getElem?_eq_some_iff.1 hv).1
  induction l generalizing i with
  | nil => simp at h
  | cons y l ih =>
    cases i with
    | zero => simp at h; subst h; simp only [flatA, List.flatMap_cons]; rw [List.getElem?_append_left (by rw [Nat.zero_mul, Nat.zero_add]; exact hj), Nat.zero_mul, Nat.zero_add]; exact hv
    | succ i =>
      simp at h
      have := ih h
      simp only [flatA, List.flatMap_cons]
      rw [List.getElem?_append_right (by simp [KC.att]; omega), show (i + 1) * 11 + j - y.att.length = i * 11 + j from by simp [KC.att]; omega]
      exact this
theorem flatA_snoc (l : List KC) (x : KC) : flatA (l ++ [x]) = flatA l ++ x.att := by simp [flatA]
theorem Try.infoAtt : (Try.prog.info? 45).map (fun i => (i.zero, i.size, i.bytes)) = some (some (.agg #[.int .i64 0, .int .i64 0, .int .i64 0, .int .i64 0, .int .i64 0, .int .i64 0, .int .i64 0, .slice none 0 0, .slice none 0 0, .bool false, .int .i64 0]), 11, 120) := by kernel_rfl
/-- What Split leaves. -/
def SplitO (w : World) (h : List Ev) (z : Ending) (w' : World) : Prop :=
  (readH h = none ∧ z = .returned (.tuple #[.slice none 0 0, .int .i64 120]) ∧ Below w.heap.size w w') ∨
  ∃ (c : SC) (w1 : World) (v : Value), readH h = some c.rd ∧ RI c.rd h.length ∧ Ap w w1 c.pf ∧ Below w1.heap.size w1 w' ∧ z = .returned (.tuple #[v, .int .i64 0]) ∧ w'.ownsRow w1.heap.size 45 11 v c.l.length (flatA c.l)
theorem new_block_at {V : World} {o : Obj} {N : Nat} (h : V.heap.size = N) : (V.alloc o).heap[N]? = some o := by subst h; exact new_block V o
theorem cells_range {w : World} {g off : Nat} {L : List Value} (h : CellsAt w g off L) : w.rangeAt g off L := fun j v hv => (h j v hv).1

set_option maxRecDepth 100000 in
set_option maxHeartbeats 4000000 in
theorem split_any {a : Option Addr} {cap : Nat} {h : List Ev} (w : World) (hr : RowsIn w a 9 Ev.cells h) (hl : h.length ≤ 900) (hf : ∀ e ∈ h, e.fit) :
    Calls Try.prog 8 #[.slice a h.length cap] w fun z w' => SplitO w h z w' := by
  have Hrd := Lib.hid (read_any (cap := cap) w hr hl hf)
  clear hr hf
  go_enter Try.func8, Try.ntmps8
  go_wp2_with fail
  refine Hrd.out.mono ?_
  rintro z w1 (⟨hn, rfl, hb⟩ | ⟨c, hrd, rfl, hev, hri, hap⟩)
  · have HB := Lib.hid hb; have HN := Lib.hid hn; clear hn hb
    go_wp2
    go_ret2
    exact .inl ⟨HN.out, rfl, HB.out⟩
  · obtain ⟨ad, cp, hva, -⟩ := SC.va_any hap
    have s1 := (SC.sto hap).cell (i := 1) rfl
    rw [hva] at s1
    have HA := Lib.hid hap; clear hap
    have HRI := Lib.hid hri; clear hri
    have HRD := Lib.hid hrd; clear hrd
    have HVA := Lib.hid hva; clear hva
    have hcl : c.l.length ≤ 900 := by have := HRI.out.ksn; simp only [SC.rd, List.length_map] at this; omega
    obtain ⟨i0, hi0, hz0, hz1, hz2⟩ := info_parts Try.infoAtt
    have HI0 := Lib.hid hi0; clear hi0
    have HZ0 := Lib.hid hz0; clear hz0
    have HZ1 := Lib.hid hz1; clear hz1
    have HZ2 := Lib.hid hz2; clear hz2
    clear hev Hrd
    go_wp2
    go_loopw [6, 8, 22] (fun v _ i wr => ∃ k : Nat, k ≤ c.l.length ∧ i = .int .i64 k ∧ wr.ownsRow w1.heap.size 45 11 v k (flatA (c.l.take k)) ∧ Below w1.heap.size w1 wr) (fun _ _ i _ => c.l.length - (intOf i).toNat)
    case atStart => exact ⟨0, Nat.zero_le _, rfl, World.ownsRow_nil _ _ _ _, Below.refl _ _⟩
    case round =>
      obtain ⟨k, hk, rfl, hrow, hbw⟩ := hrel
      have Hrow := Lib.hid hrow; clear hrow
      have Hbw := Lib.hid hbw; clear hbw
      by_cases hlt : k < c.l.length
      · obtain ⟨x, hx⟩ : ∃ x, c.l[k]? = some x := ⟨_, List.getElem?_eq_getElem hlt⟩
        obtain ⟨g, cap', e⟩ := SC.va_form HA.out hx
        have e2 := HVA.out.symm.trans e
        simp only [Value.slice.injEq] at e2
        obtain ⟨rfl, -, rfl⟩ := e2
        have hrg := cells_range (SC.cells (HA.out.idle Hbw.out) hx (by rw [HVA.out]; rfl))
        have HRG := Lib.hid hrg; clear hrg
        have HX := Lib.hid hx; clear hx
        have hkl : (0 : Int) ≤ k ∧ (k : Int) < c.l.length := by omega
        obtain ⟨⟨xco, xbl, xtr, xla, xfr, xpt, xto, xld, xst, xcom, xcd, xodd⟩, xlv, xlb, xsv, xsb⟩ := x
        simp only [KC.cells] at HRG
        clear e
        obtain ⟨la, ln, lc, hlv⟩ : ∃ la ln lc, xlv = .slice la ln lc := by
          rcases owns_form (SC.ldr HA.out HX.out) with ⟨h1, h2, _⟩ | ⟨g, cap, h1, _⟩
          · exact ⟨_, _, _, h1⟩
          · exact ⟨_, _, _, h1⟩
        obtain ⟨sa, sn, sc, hsv⟩ : ∃ sa sn sc, xsv = .slice sa sn sc := by
          rcases owns_form (SC.str HA.out HX.out) with ⟨h1, h2, _⟩ | ⟨g, cap, h1, _⟩
          · exact ⟨_, _, _, h1⟩
          · exact ⟨_, _, _, h1⟩
        subst hlv hsv
        go_wp2_with (first
          | (refine wpList_load_mid rfl 78 (.tmp 24) rfl g (k * 14) rfl [.int .i64 xco, .int .i64 xbl, .int .i64 xtr, .int .i64 xla, .int .i64 xfr, .int .i64 xpt, .int .i64 xto, .slice la ln lc, .slice sa sn sc, .bool xcom, .int .i64 xcd, .map (some xlb), .map (some xsb), .bool xodd] _ ?_ Try.underlying78 rfl Try.sizeKnown ?_; exact HRG.out)
          | (at_builtin; refine wpList_append_own_at _ rfl _ _ 23 rfl w1.heap.size 45 i0 _ 11 120 Try.underlying23 HI0.out HZ0.out HZ1.out HZ2.out rfl (by decide) u6 k _ rfl (World.ownsRow.alloc (World.ownsRow.alloc Hrow.out _) _) ⟨wr.heap.size + 1, 0, none⟩ 1 1 [.int .i64 xco, .int .i64 xbl, .int .i64 xtr, .int .i64 xla, .int .i64 xfr, .int .i64 xpt, .int .i64 xto, .slice la ln lc, .slice sa sn sc, .bool xcom, .int .i64 xcd] rfl rfl (World.news_of_block (cs := #[.int .i64 xco, .int .i64 xbl, .int .i64 xtr, .int .i64 xla, .int .i64 xfr, .int .i64 xpt, .int .i64 xto, .slice la ln lc, .slice sa sn sc, .bool xcom, .int .i64 xcd]) (t := 45) (fr := (0, 0)) (new_block_at (by simp))) (by simp [Value.oneCell']) (by unfold maxLen; omega) (by omega) (by have := Hbw.out.size; simp; omega) ?_; intro v6 w6 hown6 hgrow6 hnil6 hat6; have Hown6 := Lib.hid hown6; have HB6 := Lib.hid (((Hbw.out.alloc Hbw.out.size (.cells #[.int .i64 xco, .int .i64 xbl, .int .i64 xtr, .int .i64 xla, .int .i64 xfr, .int .i64 xpt, .int .i64 xto, .slice la ln lc, .slice sa sn sc, .bool xcom, .int .i64 xcd, .map (some xlb), .map (some xsb), .bool xodd] 78)).alloc (by have := Hbw.out.size; simp; omega) (.cells #[.int .i64 xco, .int .i64 xbl, .int .i64 xtr, .int .i64 xla, .int .i64 xfr, .int .i64 xpt, .int .i64 xto, .slice la ln lc, .slice sa sn sc, .bool xcom, .int .i64 xcd] 45)).grown hgrow6 (by have := Hbw.out.size; simp; omega) (fun g e => (owns_lt Hrow.out e).1)); clear hown6 hgrow6 hnil6 hat6))
        go_roundw
        case rel => exact ⟨k + 1, by omega, by go_num, by rw [List.take_add_one, HX.out]; simpa [flatA_snoc, KC.att] using Hown6.out, HB6.out⟩
        case measure => simp [intOf]; omega
      · obtain rfl : k = c.l.length := by omega
        have hrow := Hrow.out
        rw [List.take_length] at hrow
        have HR := Lib.hid hrow; clear hrow
        go_wp2
        go_ret2
        exact .inr ⟨c, w1, _, HRD.out, HRI.out, HA.out, Hbw.out, rfl, HR.out⟩

end Go.Proofs.Ytgjbhcnadenojaa
