/- FlowParts: the document's two Sames. Conditions: those stated in each theorem. -/
import Derived.Test.YtehnailokgoekaaDoorFlwM
import Derived.Test.YtehnailokgoekaaDoorCame
import Derived.Deep.QuietTactic
namespace Go.Proofs.YtehnailokgoekaaDoor
open Go.RowKit Go.BigFrame Go.Shelf

set_option maxRecDepth 100000 in
set_option maxHeartbeats 1000000 in
theorem isame_yes (a b : Option Addr) (ca cb : Nat) (l : List In) (w : World) (ha : RowsIn w a 5 In.cells l) (hb : RowsIn w b 5 In.cells l) (hl : l.length ≤ 1000000) :
    Calls Tryd.prog 9 #[.slice a l.length ca, .slice b l.length cb] w fun e w' => e = .returned (.bool true) ∧ Below w.heap.size w w' := by
  have Ha := Lib.hid ha; clear ha
  have Hb := Lib.hid hb; clear hb
  go_enter Tryd.func9, Tryd.ntmps9
  go_wp2_with fail
  go_loopw [5] (fun i wr => ∃ k : Nat, k ≤ l.length ∧ i = .int .i64 k ∧ Below w.heap.size w wr) (fun i _ => l.length - (intOf i).toNat)
  case atStart => exact ⟨0, by omega, by simp, Below.refl _ _⟩
  case round =>
    obtain ⟨k, hk, rfl, hbw⟩ := hrel
    have Hbw := Lib.hid hbw; clear hbw
    by_cases hlt : k < l.length
    · obtain ⟨x, hx⟩ : ∃ x, l[k]? = some x := ⟨l[k], List.getElem?_eq_getElem hlt⟩
      obtain ⟨q, c, rfl, hq, hr1⟩ := (Ha.out.below Hbw.out).row hx
      obtain ⟨p, d, rfl, hp, hr2⟩ := (Hb.out.below Hbw.out).row hx
      obtain ⟨op, xa, xb, xc, imm⟩ := x
      have hbk : (0 : Int) ≤ k ∧ (k : Int) < l.length := by omega
      have r0 : wr.cell? ⟨q, c + k * 5, none⟩ = some (.int .i64 op) := hr1 0 _ rfl
      have r1 : wr.cell? ⟨q, c + k * 5 + 1, none⟩ = some (.int .i64 xa) := hr1 1 _ rfl
      have r2 : wr.cell? ⟨q, c + k * 5 + 2, none⟩ = some (.int .i64 xb) := hr1 2 _ rfl
      have r3 : wr.cell? ⟨q, c + k * 5 + 3, none⟩ = some (.int .i64 xc) := hr1 3 _ rfl
      have r4 : wr.cell? ⟨q, c + k * 5 + 4, none⟩ = some (.int .i64 imm) := hr1 4 _ rfl
      have s0 : wr.cell? ⟨p, d + k * 5, none⟩ = some (.int .i64 op) := hr2 0 _ rfl
      have s1 : wr.cell? ⟨p, d + k * 5 + 1, none⟩ = some (.int .i64 xa) := hr2 1 _ rfl
      have s2 : wr.cell? ⟨p, d + k * 5 + 2, none⟩ = some (.int .i64 xb) := hr2 2 _ rfl
      have s3 : wr.cell? ⟨p, d + k * 5 + 3, none⟩ = some (.int .i64 xc) := hr2 3 _ rfl
      have s4 : wr.cell? ⟨p, d + k * 5 + 4, none⟩ = some (.int .i64 imm) := hr2 4 _ rfl
      clear hr1 hr2 hx
      go_wp2_with fail
      go_quiet (fail)
      go_wp2
      go_roundw
      case rel => exact ⟨k + 1, by omega, by simp, below_drewN Hbw.out _⟩
      case measure => simp [intOf]; omega
    · obtain rfl : k = l.length := by omega
      go_wp2
      go_ret
      exact ⟨rfl, Hbw.out⟩

set_option maxRecDepth 100000 in
set_option maxHeartbeats 1000000 in
theorem psame_yes (ps : List Pt) (lo lo' : Nat) (v v' : Value) (W : World) (hA : PartsAt W lo v ps) (hB : PartsAt W lo' v' ps) (hx2 : ∀ p ∈ ps, p.nx.length ≤ 2) (hn : ps.length ≤ 1024) :
    Calls Tryd.prog 8 #[v, v'] W fun e w' => e = .returned (.bool true) ∧ Below W.heap.size W w' := by
  obtain ⟨aa, ca, rfl, hsa⟩ := hA.form
  obtain ⟨ab, cb, rfl, hsb⟩ := hB.form
  have H := Lib.hid (And.intro hA (And.intro hB (And.intro hx2 (And.intro hn (And.intro hsa hsb))))); clear hA hB hx2 hn hsa hsb
  go_enter Tryd.func8, Tryd.ntmps8
  go_wp2_with fail
  go_loopw [5] (fun s5 V => ∃ k : Nat, s5 = .int .i64 k ∧ k ≤ ps.length ∧ Below W.heap.size W V) (fun s5 _ => ps.length - (intOf s5).toNat)
  case atStart => exact ⟨0, rfl, Nat.zero_le _, Below.refl _ _⟩
  case round =>
    obtain ⟨k, rfl, hk, hbV⟩ := hrel
    by_cases hlt : k < ps.length
    · obtain ⟨p, hp⟩ : ∃ p, ps[k]? = some p := ⟨_, List.getElem?_eq_getElem hlt⟩
      obtain ⟨ga, rfl⟩ := H.out.2.2.2.2.1 (by omega)
      obtain ⟨gb, rfl⟩ := H.out.2.2.2.2.2 (by omega)
      obtain ⟨a0, a1, na, ma, a2, hna⟩ := (H.out.1.below hbV).part hp
      obtain ⟨b0, b1, nb, mb, b2, hnb⟩ := (H.out.2.1.below hbV).part hp
      have hki : (0 : Int) ≤ (k : Int) ∧ (k : Int) < ps.length := by omega
      have hkk : IntKind.i64.wrap ((k : Int) + 1) = (k : Int) + 1 := by rw [IntKind.wrap_i64]; have := H.out.2.2.2.1; omega
      have hp2 := H.out.2.2.1 p (List.mem_of_getElem? hp)
      have Hk := Lib.hid (And.intro hlt (And.intro hbV (And.intro hkk (And.intro hp2 (And.intro hna hnb))))); clear hlt hbV hkk hp2 hna hnb hk hp
      go_wp2_with fail
      go_quiet (fail)
      go_wp2_with fail
      clear a0 a1 b0 b1
      go_loopw [6] (fun s6 V => ∃ j : Nat, s6 = .int .i64 j ∧ j ≤ p.nx.length ∧ ∃ q, V = wr.drewN q) (fun s6 _ => p.nx.length - (intOf s6).toNat)
      case atStart => exact ⟨0, rfl, Nat.zero_le _, _, rfl⟩
      case round =>
        obtain ⟨j, rfl, hj, q, rfl⟩ := hrel
        by_cases hjl : j < p.nx.length
        · obtain ⟨x, hx⟩ : ∃ x, p.nx[j]? = some x := ⟨_, List.getElem?_eq_getElem hjl⟩
          obtain ⟨qa, rfl, -, hca⟩ := Hk.out.2.2.2.2.1 (by omega)
          obtain ⟨qb, rfl, -, hcb⟩ := Hk.out.2.2.2.2.2 (by omega)
          have xa := hca j x hx
          have xb := hcb j x hx
          have hji : (0 : Int) ≤ (j : Int) ∧ (j : Int) < p.nx.length := by omega
          have hjj : IntKind.i64.wrap ((j : Int) + 1) = (j : Int) + 1 := by rw [IntKind.wrap_i64]; have := Hk.out.2.2.2.1; omega
          have Hj := Lib.hid hjl; clear hjl hj hca hcb hx
          go_wp2_with fail
          go_quiet (fail)
          go_wp2_with fail
          go_roundw
          case rel => exact ⟨j + 1, rfl, by have := Hj.out; omega, _, rfl⟩
          case measure => simp [intOf]; have := Hj.out; omega
        · have hje : j = p.nx.length := by omega
          subst hje
          have hkk := Hk.out.2.2.1
          have HQ := Lib.hid (below_drewN Hk.out.2.1 q); clear hj hjl
          go_wp2_with fail
          go_roundw
          case rel => exact ⟨k + 1, rfl, by have := Hk.out.1; omega, HQ.out⟩
          case measure => simp [intOf]; have := Hk.out.1; omega
    · have hke : k = ps.length := by omega
      subst hke
      have HQ := Lib.hid hbV; clear hbV hk hlt
      go_wp2_with fail
      go_ret
      exact ⟨rfl, HQ.out⟩

end Go.Proofs.YtehnailokgoekaaDoor
