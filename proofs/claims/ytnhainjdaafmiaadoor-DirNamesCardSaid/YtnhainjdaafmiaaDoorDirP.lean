/- The directory as plain functions of what it knows. Conditions: those stated in each theorem. -/
import Derived.Test.YtnhainjdaafmiaaDoorDirD
namespace Go.Proofs.YtnhainjdaafmiaaDoor

/-- What is known of a line, as plain data. -/
structure LV where
  owner : Int
  sh : Nat
  under : MsgV
  phase : Int
  asked : Nat
  ms : List MsgV
def LV.kn (l : LV) (wv : Value) : KnV := ⟨l.owner, l.sh, l.under, l.phase, l.asked, wv⟩
def LV.new : LV := ⟨-1, 0, MsgV.zero, 0, 0, []⟩
def LV.refuses (l : LV) (m : MsgV) : Bool := refusesL (l.kn (.slice none 0 0)) l.ms m
theorem LV.refuses_kn (l : LV) (wv : Value) (m : MsgV) : refusesL (l.kn wv) l.ms m = l.refuses m := rfl
def coresL (s : Nat) : List Nat := (List.range 4).filter (hasS s)
def LV.grant (l : LV) (d : L8) : LV × MsgV :=
  if l.under.kind = 1 then ({ l with phase := 4, sh := withS l.sh l.under.core.toNat }, ⟨14, l.under.core, l.under.line, d⟩)
  else ({ l with phase := 4, owner := l.under.core, sh := 0 }, ⟨15, l.under.core, l.under.line, d⟩)
def LV.recall (l : LV) : LV × List MsgV := ({ l with phase := 1, asked := withS 0 l.owner.toNat }, [⟨if l.under.kind = 2 then 13 else 12, l.owner, l.under.line, L8.zero⟩])
def LV.inval (l : LV) (others : Nat) : LV × List MsgV := ({ l with phase := 3, asked := others }, (coresL others).map fun (c : Nat) => ⟨11, (c : Int), l.under.line, L8.zero⟩)
def LV.begin (l : LV) (req : MsgV) (d : L8) : LV × List MsgV :=
  if l.owner ≠ -1 then LV.recall { l with under := req }
  else if req.kind = 2 ∧ lessS l.sh req.core.toNat ≠ 0 then LV.inval { l with under := req } (lessS l.sh req.core.toNat)
  else ((LV.grant { l with under := req } d).1, [(LV.grant { l with under := req } d).2])
def reqOf (m : MsgV) : MsgV := ⟨m.kind, m.core, m.line, L8.zero⟩
def LV.request (l : LV) (m : MsgV) (d : L8) : LV × List MsgV := if l.phase ≠ 0 then ({ l with ms := l.ms ++ [reqOf m] }, []) else l.begin (reqOf m) d
def putAck (m : MsgV) : MsgV := ⟨16, m.core, m.line, L8.zero⟩
def LV.put (l : LV) (m : MsgV) : LV × List MsgV :=
  if l.phase ≠ 2 then ({ l with owner := -1 }, [putAck m]) else ((LV.grant { l with owner := -1 } m.data).1, [putAck m, (LV.grant { l with owner := -1 } m.data).2])
def LV.invAck (l : LV) (c : Nat) (d : L8) : LV × List MsgV :=
  if lessS l.asked c ≠ 0 then ({ l with sh := lessS l.sh c, asked := lessS l.asked c }, [])
  else ((LV.grant { l with sh := lessS l.sh c, asked := lessS l.asked c } d).1, [(LV.grant { l with sh := lessS l.sh c, asked := lessS l.asked c } d).2])
def LV.given (l : LV) (m : MsgV) : LV := { l with owner := -1, sh := if l.under.kind = 1 then withS l.sh m.core.toNat else l.sh }
def LV.recallAck (l : LV) (m : MsgV) : LV × List MsgV := (((l.given m).grant m.data).1, [((l.given m).grant m.data).2])
def LV.recallNone (l : LV) (d : L8) : LV × List MsgV := if l.owner ≠ -1 then ({ l with phase := 2 }, []) else ((l.grant d).1, [(l.grant d).2])
def LV.unblock (l : LV) (d : L8) : LV × List MsgV := match l.ms with
  | [] => ({ l with phase := 0 }, [])
  | m :: r => LV.begin { l with phase := 0, ms := r } m d
/-- A message that is not refused is heard: the line, its words in memory, what is answered. -/
def LV.take (l : LV) (d : L8) (m : MsgV) : LV × L8 × List MsgV :=
  if m.kind = 1 ∨ m.kind = 2 then ((l.request m d).1, d, (l.request m d).2)
  else if m.kind = 3 then ((l.put m).1, m.data, (l.put m).2)
  else if m.kind = 4 then ((l.invAck m.core.toNat d).1, d, (l.invAck m.core.toNat d).2)
  else if m.kind = 5 then ((l.recallAck m).1, m.data, (l.recallAck m).2)
  else if m.kind = 6 then ((l.recallNone d).1, d, (l.recallNone d).2)
  else ((l.unblock d).1, d, (l.unblock d).2)

/-- A directory. -/
structure Dv where
  n : Nat
  cores : Nat
  mems : List L8
  ls : List LV
def Dv.new (n cores : Nat) : Dv := ⟨n, cores, List.replicate n L8.zero, List.replicate n LV.new⟩
def Dv.l (d : Dv) (i : Nat) : LV := d.ls.getD i LV.new
def Dv.m (d : Dv) (i : Nat) : L8 := d.mems.getD i L8.zero
def Dv.hear (d : Dv) (m : MsgV) : Dv × List MsgV × Int :=
  if ¬ (0 ≤ m.line ∧ m.line < d.n) then (d, [], 2)
  else if ¬ (0 ≤ m.core ∧ m.core < d.cores) then (d, [], 2)
  else if (d.l m.line.toNat).refuses m = true then (d, [], 30)
  else ({ d with ls := d.ls.set m.line.toNat ((d.l m.line.toNat).take (d.m m.line.toNat) m).1, mems := d.mems.set m.line.toNat ((d.l m.line.toNat).take (d.m m.line.toNat) m).2.1 }, ((d.l m.line.toNat).take (d.m m.line.toNat) m).2.2, 0)
def Dv.inLine (d : Dv) (i : Int) : Bool := decide (0 ≤ i) && decide (i < d.n)
def Dv.owner (d : Dv) (i : Int) : Int := if d.inLine i then (d.l i.toNat).owner else -1
def Dv.sharers (d : Dv) (i : Int) : List Nat := if d.inLine i then coresL (d.l i.toNat).sh else []
def Dv.under (d : Dv) (i : Int) : MsgV × Bool := if d.inLine i && (d.l i.toNat).phase != 0 then ((d.l i.toNat).under, true) else (MsgV.zero, false)
def Dv.waiting (d : Dv) (i : Int) : List MsgV := if d.inLine i then (d.l i.toNat).ms else []
def Dv.memory (d : Dv) (i : Int) : L8 × Int := if d.inLine i then (d.m i.toNat, 0) else (L8.zero, 2)
def Dv.set (d : Dv) (i : Int) (x : L8) : Dv × Int := if d.inLine i then ({ d with mems := d.mems.set i.toNat x }, 0) else (d, 2)

/-! ### What stays so -/
/-- A request as it is kept. -/
structure ReqOk (i : Nat) (m : MsgV) : Prop where
  kind : m.kind = 1 ∨ m.kind = 2
  core0 : 0 ≤ m.core
  core4 : m.core < 4
  line : m.line = i
structure LWf (i : Nat) (l : LV) : Prop where
  own0 : -1 ≤ l.owner
  own4 : l.owner < 4
  sh : l.sh < 16
  asked : l.asked < 16
  under : l.phase ≠ 0 → ReqOk i l.under
  ms : ∀ m ∈ l.ms, ReqOk i m
  apart : (l.ms.map MsgV.core).Nodup

theorem nodup_four (xs : List Int) (h : xs.Nodup) (hx : ∀ x ∈ xs, 0 ≤ x ∧ x < 4) : xs.length ≤ 4 := by
  have := h.length_le_of_subset (l₂ := [0, 1, 2, 3]) (fun x hm => by have := hx x hm; simp; omega)
  simpa using this
theorem LWf.len {i : Nat} {l : LV} (h : LWf i l) : l.ms.length ≤ 4 := by
  have := nodup_four _ h.apart (fun x hx => by obtain ⟨m, hm, rfl⟩ := List.mem_map.1 hx; exact ⟨(h.ms m hm).core0, (h.ms m hm).core4⟩)
  simpa using this

theorem LWf.new (i : Nat) : LWf i LV.new := ⟨by decide, by decide, by decide, by decide, fun h => absurd rfl h, fun _ h => (List.not_mem_nil h).elim, List.nodup_nil⟩
theorem grant_wf {i : Nat} {l : LV} (h : LWf i l) (hu : ReqOk i l.under) (d : L8) : LWf i (l.grant d).1 := by
  have := hu.core0; have := hu.core4
  unfold LV.grant
  split
  · exact ⟨h.own0, h.own4, withS_lt _ h.sh _ (by omega), h.asked, fun _ => hu, h.ms, h.apart⟩
  · exact ⟨by show -1 ≤ l.under.core; omega, hu.core4, by show 0 < 16; omega, h.asked, fun _ => hu, h.ms, h.apart⟩
theorem begin_wf {i : Nat} {l : LV} (h : LWf i l) {req : MsgV} (hr : ReqOk i req) (d : L8) : LWf i (l.begin req d).1 := by
  have := hr.core0; have := hr.core4
  have h' : LWf i { l with under := req } := ⟨h.own0, h.own4, h.sh, h.asked, fun _ => hr, h.ms, h.apart⟩
  have := h.own0; have := h.own4
  unfold LV.begin
  split
  · exact ⟨h.own0, h.own4, h.sh, withS_lt 0 (by omega) _ (by show l.owner.toNat < 4; omega), fun _ => hr, h.ms, h.apart⟩
  split
  · exact ⟨h.own0, h.own4, h.sh, lessS_lt _ h.sh _ (by omega), fun _ => hr, h.ms, h.apart⟩
  · exact grant_wf h' hr d
theorem take_wf {i : Nat} {l : LV} (h : LWf i l) (d : L8) (m : MsgV) (hl : m.line = i) (h0 : 0 ≤ m.core) (h4 : m.core < 4) (hr : l.refuses m = false) : LWf i (l.take d m).1 := by
  unfold LV.refuses refusesL at hr
  unfold LV.take
  split at hr
  next hk =>
    rw [if_pos hk]
    show LWf i (l.request m d).1
    have hq : ReqOk i (reqOf m) := ⟨hk, h0, h4, hl⟩
    have hw : waitsL m.core l.ms = false := by
      unfold refReqL at hr
      simp only [Bool.or_eq_false_iff] at hr
      exact hr.1.1
    unfold LV.request
    split
    · refine ⟨h.own0, h.own4, h.sh, h.asked, h.under, fun x hx => ?_, ?_⟩
      · rcases List.mem_append.1 hx with hx | hx
        · exact h.ms x hx
        · simp only [List.mem_singleton] at hx; subst hx; exact hq
      · show ((l.ms ++ [reqOf m]).map MsgV.core).Nodup
        rw [List.map_append]
        refine List.nodup_append.2 ⟨h.apart, by simp, fun x hx y hy e => ?_⟩
        simp only [List.map_cons, List.map_nil, List.mem_singleton] at hy
        subst hy e
        obtain ⟨z, hz, e⟩ := List.mem_map.1 hx
        unfold waitsL at hw
        rw [List.any_eq_false] at hw
        exact hw z hz (by simpa [reqOf] using e)
    · exact begin_wf h hq d
  next hk =>
  rw [if_neg hk]
  split at hr
  next hk3 =>
    rw [if_pos hk3]
    show LWf i (l.put m).1
    have h' : LWf i { l with owner := -1 } := ⟨by show (-1 : Int) ≤ -1; decide, by show (-1 : Int) < 4; decide, h.sh, h.asked, h.under, h.ms, h.apart⟩
    unfold LV.put
    split
    · exact h'
    next hp => exact grant_wf h' (h.under (by simp only [ne_eq, Decidable.not_not] at hp; omega)) _
  next hk3 =>
  rw [if_neg hk3]
  have hlt : m.core.toNat < 4 := by omega
  split at hr
  next hk4 =>
    rw [if_pos hk4]
    show LWf i (l.invAck m.core.toNat d).1
    have hp : l.phase = 3 := by
      simp only [Bool.or_eq_false_iff, bne_eq_false_iff_eq] at hr; exact hr.1
    have h' : LWf i { l with sh := lessS l.sh m.core.toNat, asked := lessS l.asked m.core.toNat } := ⟨h.own0, h.own4, lessS_lt _ h.sh _ hlt, lessS_lt _ h.asked _ hlt, h.under, h.ms, h.apart⟩
    unfold LV.invAck
    split
    · exact h'
    · exact grant_wf h' (h.under (by omega)) _
  next hk4 =>
  rw [if_neg hk4]
  split at hr
  next hk5 =>
    rw [if_pos hk5]
    have hp : l.phase = 1 := by
      simp only [Bool.or_eq_false_iff, bne_eq_false_iff_eq] at hr; exact hr.1
    have h' : LWf i (l.given m) := by
      refine ⟨by show (-1 : Int) ≤ -1; decide, by show (-1 : Int) < 4; decide, ?_, h.asked, h.under, h.ms, h.apart⟩
      unfold LV.given
      dsimp only
      split
      · exact withS_lt _ h.sh _ hlt
      · exact h.sh
    exact grant_wf h' (h.under (by omega)) _
  next hk5 =>
  rw [if_neg hk5]
  split at hr
  next hk6 =>
    rw [if_pos hk6]
    have hp : l.phase = 1 := by
      simp only [Bool.or_eq_false_iff, bne_eq_false_iff_eq] at hr; exact hr.1
    show LWf i (l.recallNone d).1
    unfold LV.recallNone
    split
    · exact ⟨h.own0, h.own4, h.sh, h.asked, fun _ => h.under (by omega), h.ms, h.apart⟩
    · exact grant_wf h (h.under (by omega)) _
  next hk6 =>
  rw [if_neg hk6]
  show LWf i (l.unblock d).1
  unfold LV.unblock
  split
  next hm => exact ⟨h.own0, h.own4, h.sh, h.asked, fun hp => absurd rfl hp, h.ms, h.apart⟩
  next x r hm =>
    have ha := h.apart
    rw [hm] at ha
    have hms := h.ms
    rw [hm] at hms
    have h' : LWf i { l with phase := 0, ms := r } := ⟨h.own0, h.own4, h.sh, h.asked, fun hp => absurd rfl hp, fun y hy => hms y (List.mem_cons_of_mem _ hy), (List.nodup_cons.1 ha).2⟩
    exact begin_wf h' (hms x (List.mem_cons_self ..)) d

end Go.Proofs.YtnhainjdaafmiaaDoor
