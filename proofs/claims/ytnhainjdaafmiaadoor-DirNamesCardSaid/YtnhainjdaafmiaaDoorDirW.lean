/- A directory in memory. Conditions: those stated in each theorem. -/
import Derived.Test.YtnhainjdaafmiaaDoorDirV
namespace Go.Proofs.YtnhainjdaafmiaaDoor
open Go.RowKit Go.BigFrame

def ksOf (ls : List LV) (wvs : List Value) : List KnV := List.zipWith LV.kn ls wvs
theorem ksOf_get {ls : List LV} {wvs : List Value} {i : Nat} {l : LV} {v : Value} (hl : ls[i]? = some l) (hv : wvs[i]? = some v) : (ksOf ls wvs)[i]? = some (l.kn v) := by
  simp [ksOf, List.getElem?_zipWith, hl, hv]
theorem ksOf_len {ls : List LV} {wvs : List Value} (h : ls.length = wvs.length) : (ksOf ls wvs).length = ls.length := by simp [ksOf, h]
theorem ksOf_set {ls : List LV} {wvs : List Value} (i : Nat) (l : LV) (v : Value) : ksOf (ls.set i l) (wvs.set i v) = (ksOf ls wvs).set i (l.kn v) := by
  induction ls generalizing wvs i with
  | nil => simp [ksOf]
  | cons a r ih =>
    cases wvs with
    | nil => simp [ksOf]
    | cons u s =>
      cases i with
      | zero => simp [ksOf]
      | succ i => have := ih (wvs := s) i; simp only [ksOf] at this ⊢; simp [this]
theorem rows16_len (ks : List KnV) : (ks.flatMap KnV.cells).length = ks.length * 16 := by
  induction ks with
  | nil => rfl
  | cons k r ih => rw [List.flatMap_cons, List.length_append, ih, KnV.len, List.length_cons]; omega
theorem rows16_ext (ks : List KnV) (vs : Array Value) (hs : vs.size = ks.length * 16) (h : ∀ j k, ks[j]? = some k → ∀ r, r < 16 → vs[j * 16 + r]? = k.cells[r]?) : vs = (ks.flatMap KnV.cells).toArray := by
  apply Array.ext_getElem?
  intro t
  by_cases ht : t < ks.length * 16
  · have hj : t / 16 < ks.length := by omega
    have e : t = t / 16 * 16 + t % 16 := by omega
    rw [e, h (t / 16) ks[t / 16] (List.getElem?_eq_getElem hj) (t % 16) (by omega), List.getElem?_toArray]
    exact (flat_get KnV.cells 16 KnV.len ks (t / 16) (t % 16) _ (List.getElem?_eq_getElem hj) (by omega)).symm
  · rw [Array.getElem?_eq_none (by omega), List.getElem?_toArray, List.getElem?_eq_none (by rw [rows16_len]; omega)]

structure DirAt (w : World) (lo p m b L : Nat) (wvs : List Value) (d : Dv) : Prop where
  c0 : w.cell? ⟨p, 0, none⟩ = some (.pointer (some ⟨m, 0, none⟩))
  c1 : w.cell? ⟨p, 1, none⟩ = some (.int .i64 d.cores)
  c2 : w.cell? ⟨p, 2, none⟩ = some (.slice (some ⟨L, 0, none⟩) d.n d.n)
  mem : MemAt w m b d.n (flatD d.mems)
  row : w.heap[L]? = some (.cells ((ksOf d.ls wvs).flatMap KnV.cells).toArray 80 (0, 0))
  lenL : d.ls.length = d.n
  lenW : wvs.length = d.n
  lenM : d.mems.length = d.n
  wait : ∀ (i : Nat) (l : LV) (v : Value), d.ls[i]? = some l → wvs[i]? = some v → w.ownsRow lo 45 11 v l.ms.length (l.ms.flatMap MsgV.cells)
  out : ∀ (i : Nat) (v : Value), wvs[i]? = some v → ∀ g, v.ownBlock = some g → g ≠ p ∧ g ≠ m ∧ g ≠ b ∧ g ≠ L ∧ g ≠ 1
  apart : ∀ (i j : Nat) (v u : Value), i ≠ j → wvs[i]? = some v → wvs[j]? = some u → ∀ g, v.ownBlock = some g → u.ownBlock ≠ some g
  wf : ∀ (i : Nat) (l : LV), d.ls[i]? = some l → LWf i l
  tab : TabAt w
  bL : b ≠ L
  mL : m ≠ L
  pL : p ≠ L
  pb : p ≠ b
  pm : p ≠ m
  mb : m ≠ b
  gl : 1 < lo
  above : lo ≤ p ∧ lo ≤ m ∧ lo ≤ b ∧ lo ≤ L
  n2 : 2 ≤ d.n
  n64 : d.n ≤ 64
  one : 1 ≤ d.cores
  four : d.cores ≤ 4

/-- What a call may turn. -/
def DOwn (b L : Nat) (wvs : List Value) (k : Nat) : Prop := k = b ∨ k = L ∨ ∃ v ∈ wvs, v.ownBlock = some k

section
variable {w w' : World} {lo p m b L : Nat} {wvs : List Value} {d : Dv}
theorem DirAt.lt (h : DirAt w lo p m b L wvs d) : p < w.heap.size ∧ m < w.heap.size ∧ b < w.heap.size ∧ L < w.heap.size :=
  ⟨World.block_lt_of_cell? _ _ h.c0, World.block_lt_of_cell? _ _ h.mem.head, lt_of_block h.mem.row, lt_of_block h.row⟩
theorem DirAt.known (h : DirAt w lo p m b L wvs d) {i : Nat} {l : LV} {v : Value} (hl : d.ls[i]? = some l) (hv : wvs[i]? = some v) : known w L (i * 16) (l.kn v) := by
  have hr := h.row
  refine ⟨fun j u hu => ?_, fun j => ?_⟩
  · have hj : j < 16 := (List.getElem?_eq_some_iff.1 hu).1
    have := flat_get KnV.cells 16 KnV.len (ksOf d.ls wvs) i j (l.kn v) (ksOf_get hl hv) hj
    simp [World.cell?, hr, this, hu]
  · simp [World.frozen?, hr]
theorem DirAt.dk (h : DirAt w lo p m b L wvs d) {i : Nat} {l : LV} {v : Value} (hl : d.ls[i]? = some l) (hv : wvs[i]? = some v) : DK w lo p m b L (i * 16) d.n (flatD d.mems) l v := by
  have hlt := h.lt
  have ha := h.above
  have hg := h.gl
  exact ⟨h.c0, h.mem, h.known hl hv, h.tab, h.wait i l v hl hv, h.bL, h.mL, h.pL, h.pb, h.mb, by omega, by omega, by omega, h.out i v hv, by omega⟩
theorem DirAt.frame {C : Nat → Prop} (h : DirAt w lo p m b L wvs d) (ht : Tch C w w') (hp : ¬ C p) (hm : ¬ C m) (hb : ¬ C b) (hL : ¬ C L) (hg : ¬ C 1) (hw : ∀ v ∈ wvs, ∀ g, v.ownBlock = some g → ¬ C g) : DirAt w' lo p m b L wvs d := by
  have hlt := h.lt
  have ha := h.above
  have hgl := h.gl
  have bp := ht.block p hlt.1 hp
  exact ⟨by rw [World.cell?_of_block (a := ⟨p, 0, none⟩) bp]; exact h.c0, by rw [World.cell?_of_block (a := ⟨p, 1, none⟩) bp]; exact h.c1, by rw [World.cell?_of_block (a := ⟨p, 2, none⟩) bp]; exact h.c2,
    h.mem.same (ht.block m hlt.2.1 hm) (ht.block b hlt.2.2.1 hb), (ht.block L hlt.2.2.2 hL).trans h.row, h.lenL, h.lenW, h.lenM, fun i l v hl hv => owns_same (h.wait i l v hl hv) (fun g e => ht.block g (owns_lt (h.wait i l v hl hv) e).2 (hw v (List.mem_of_getElem? hv) g e)),
    h.out, h.apart, h.wf, h.tab.block (ht.block _ (by omega) hg), h.bL, h.mL, h.pL, h.pb, h.pm, h.mb, h.gl, h.above, h.n2, h.n64, h.one, h.four⟩
theorem DirAt.get (h : DirAt w lo p m b L wvs d) {i : Nat} (hi : i < d.n) : ∃ v, d.ls[i]? = some (d.l i) ∧ wvs[i]? = some v := by
  have h1 := h.lenL
  have h2 := h.lenW
  refine ⟨wvs[i]'(by omega), ?_, List.getElem?_eq_getElem _⟩
  unfold Dv.l
  rw [List.getD_eq_getElem?_getD, List.getElem?_eq_getElem (by omega)]; rfl
theorem DirAt.owned (h : DirAt w lo p m b L wvs d) {v : Value} (hv : v ∈ wvs) {g : Nat} (hg : v.ownBlock = some g) : g < w.heap.size ∧ lo ≤ g := by
  obtain ⟨i, hi⟩ := List.mem_iff_getElem?.1 hv
  have h1 := h.lenL
  have h2 := h.lenW
  have hlt : i < wvs.length := (List.getElem?_eq_some_iff.1 hi).1
  have := owns_lt (h.wait i _ v (List.getElem?_eq_getElem (show i < d.ls.length by omega)) hi) hg
  exact ⟨this.2, this.1⟩
theorem DirAt.below (h : DirAt w lo p m b L wvs d) (hb : Below w.heap.size w w') : DirAt w' lo p m b L wvs d := by
  have hlt := h.lt
  have hgl := h.gl
  have ha := h.above
  exact h.frame (C := (w.heap.size ≤ ·)) (Tch.of_below hb) (by omega) (by omega) (by omega) (by omega) (by omega) (fun v hv g e => by have := (h.owned hv e).1; omega)

/-- Behind a call on line i. -/
theorem DirAt.put (h : DirAt w lo p m b L wvs d) {i : Nat} {l l' : LV} {v ov : Value} {ds : List L8} {out : List MsgV} (hl : d.ls[i]? = some l) (hv : wvs[i]? = some v) (hlen : ds.length = d.n) (hw : LWf i l')
    (hp : DPost w lo p m b L (i * 16) d.n v (flatD ds) l' out ov w') :
    ∃ wvs', DirAt w' lo p m b L wvs' { d with ls := d.ls.set i l', mems := ds } ∧ DOut w.heap.size w' ov out ∧ Tch (DOwn b L wvs) w w' ∧ ∀ u ∈ wvs', ∀ g, u.ownBlock = some g → (∃ u ∈ wvs, u.ownBlock = some g) ∨ w.heap.size ≤ g := by
  obtain ⟨v', h1, h2, h3, h4⟩ := hp
  have hlt := h.lt
  have hgl := h.gl
  have ha := h.above
  have hil : i < d.ls.length := (List.getElem?_eq_some_iff.1 hl).1
  have hiw : i < wvs.length := (List.getElem?_eq_some_iff.1 hv).1
  have hvm := List.mem_of_getElem? hv
  have hout := h.out i v hv
  have hT : Tch (DOwn b L wvs) w w' := h3.tch.mono (fun k _ hk => by
    rcases hk with (hk | hk) | hk
    · exact .inl hk
    · exact .inr (.inr ⟨v, hvm, hk⟩)
    · exact .inr (.inl hk))
  have bp : w'.heap[p]? = w.heap[p]? := h3.tch.block p hlt.1 (by
    rintro ((hk | hk) | hk)
    · exact h.pb hk
    · exact (hout p hk).1 rfl
    · exact h.pL hk)
  obtain ⟨vs', r1, r2, r3⟩ := h3.row _ _ _ h.row
  have hvs : vs' = ((ksOf (d.ls.set i l') (wvs.set i v')).flatMap KnV.cells).toArray := by
    rw [ksOf_set]
    refine rows16_ext _ _ ?_ (fun j k hk r hr => ?_)
    · rw [r2, List.size_toArray, rows16_len, List.length_set]
    · by_cases hji : j = i
      · subst hji
        rw [List.getElem?_set_self (by rw [ksOf_len (by rw [h.lenL, h.lenW])]; exact hil)] at hk
        cases hk
        have hc := h2.kn.1 r _ (List.getElem?_eq_getElem (by rw [KnV.len]; exact hr))
        rw [List.getElem?_eq_getElem (by rw [KnV.len]; exact hr)]
        simpa [World.cell?, r1] using hc
      · rw [List.getElem?_set_ne (fun e => hji e.symm)] at hk
        rw [r3 _ (by omega), List.getElem?_toArray]
        exact flat_get KnV.cells 16 KnV.len _ j r k hk hr
  have hnew : ∀ u ∈ wvs.set i v', ∀ g, u.ownBlock = some g → (∃ u ∈ wvs, u.ownBlock = some g) ∨ w.heap.size ≤ g := fun u hu g hg => by
    rcases List.mem_or_eq_of_mem_set hu with hu | rfl
    · exact .inl ⟨u, hu, hg⟩
    · exact (h4 g hg).imp_left (fun e => ⟨v, hvm, e⟩)
  have hget : ∀ (j : Nat) (u : Value), (wvs.set i v')[j]? = some u → j = i ∧ u = v' ∨ j ≠ i ∧ wvs[j]? = some u := fun j u hu => by
    by_cases hji : j = i
    · subst hji
      rw [List.getElem?_set_self hiw] at hu
      cases hu; exact .inl ⟨rfl, rfl⟩
    · rw [List.getElem?_set_ne (fun e => hji e.symm)] at hu
      exact .inr ⟨hji, hu⟩
  have hlgt : ∀ (j : Nat), w.heap.size ≤ j → ∀ u ∈ wvs, u.ownBlock ≠ some j := fun j hj u hu e => by have := (h.owned hu e).1; omega
  refine ⟨wvs.set i v', ⟨by rw [World.cell?_of_block (a := ⟨p, 0, none⟩) bp]; exact h.c0, by rw [World.cell?_of_block (a := ⟨p, 1, none⟩) bp]; exact h.c1, by rw [World.cell?_of_block (a := ⟨p, 2, none⟩) bp]; exact h.c2,
    h2.mem, by rw [r1, hvs], by rw [List.length_set]; exact h.lenL, by rw [List.length_set]; exact h.lenW, hlen, fun j x u hx hu => ?_, fun j u hu g hg => ?_, fun j k u y hjk hu hy g hg => ?_, fun j x hx => ?_, h2.tab, h.bL, h.mL, h.pL, h.pb, h.pm, h.mb, h.gl, h.above, h.n2, h.n64, h.one, h.four⟩, h1, hT, hnew⟩
  · rcases hget j u hu with ⟨rfl, rfl⟩ | ⟨hji, hu⟩
    · have hx' : x = l' := by
        have hx := hx
        dsimp only at hx
        rw [List.getElem?_set_self hil] at hx; cases hx; rfl
      subst hx'
      exact h2.wait
    · have hx : d.ls[j]? = some x := by
        have hx := hx
        dsimp only at hx
        rwa [List.getElem?_set_ne (fun e => hji e.symm)] at hx
      refine owns_same (h.wait j x u hx hu) (fun g hg => h3.tch.block g (owns_lt (h.wait j x u hx hu) hg).2 ?_)
      have ho := h.out j u hu g hg
      rintro ((hk | hk) | hk)
      · exact ho.2.2.1 hk
      · exact h.apart j i u v hji hu hv g hg hk
      · exact ho.2.2.2.1 hk
  · rcases hget j u hu with ⟨rfl, rfl⟩ | ⟨hji, hu⟩
    · exact h2.out g hg
    · exact h.out j u hu g hg
  · rcases hget j u hu with ⟨rfl, rfl⟩ | ⟨hji, hu2⟩
    · rcases hget k y hy with ⟨rfl, rfl⟩ | ⟨hki, hy⟩
      · exact absurd rfl hjk
      · rcases h4 g hg with e | e
        · exact h.apart j k v y (fun e => hki e.symm) hv hy g e
        · exact hlgt g e y (List.mem_of_getElem? hy)
    · rcases hget k y hy with ⟨rfl, rfl⟩ | ⟨hki, hy⟩
      · intro hk
        rcases h4 g hk with e | e
        · exact h.apart j k u v hji hu2 hv g hg e
        · exact hlgt g e u (List.mem_of_getElem? hu2) hg
      · exact h.apart j k u y hjk hu2 hy g hg
  · dsimp only at hx
    by_cases hji : j = i
    · subst hji
      rw [List.getElem?_set_self hil] at hx; cases hx; exact hw
    · rw [List.getElem?_set_ne (fun e => hji e.symm)] at hx
      exact h.wf j x hx
end

end Go.Proofs.YtnhainjdaafmiaaDoor
