/- A device in the midst of a settling: plain facts on lists; how it lies. -/
import Derived.Test.YtfpacnokecfhmaaVdevE2
namespace Go.Proofs.Ytfpacnokecfhmaa
open Go.ChangeShapes Go.WideShapes Go.ChangeAt Go.RowKit
set_option linter.unusedVariables false

theorem kept_nil (k : Nat → Bool) : DevM.kept k [] = [] := rfl
theorem kept_snoc (k : Nat → Bool) (p : List (Nat × Sec)) (x : Nat × Sec) : DevM.kept k (p ++ [x]) = DevM.kept k p ++ (if k p.length then [x] else []) := by
  unfold DevM.kept
  rw [List.zipIdx_append, List.filter_append, List.map_append]
  congr 1
  cases h : k p.length <;> simp [h]
theorem kept_take (k : Nat → Bool) (p : List (Nat × Sec)) (j : Nat) (h : j < p.length) : DevM.kept k (p.take (j + 1)) = DevM.kept k (p.take j) ++ (if k j then [p[j]] else []) := by
  rw [List.take_succ_eq_append_getElem h, kept_snoc]
  simp [Nat.min_eq_left (Nat.le_of_lt h)]
theorem kept_sub (k : Nat → Bool) (p : List (Nat × Sec)) : ∀ x ∈ DevM.kept k p, x ∈ p := by
  intro x hx
  unfold DevM.kept at hx
  obtain ⟨⟨y, n⟩, hy, rfl⟩ := List.mem_map.1 hx
  have := (List.mem_filter.1 hy).1
  have h2 := List.mem_zipIdx this
  simp at h2 ⊢
  obtain ⟨h3, h4⟩ := h2
  rw [h4]
  exact List.getElem_mem _
theorem kept_true (p : List (Nat × Sec)) : DevM.kept (fun _ => true) p = p := by
  unfold DevM.kept
  rw [List.filter_eq_self.2 (by simp)]
  exact List.zipIdx_map_fst 0 p

theorem putAll_get (l : List Sec) (p : List (Nat × Sec)) (i : Nat) (h : i ∉ p.map (·.1)) : (putAll l p)[i]? = l[i]? := by
  induction p generalizing l with
  | nil => rfl
  | cons x r ih =>
    rw [putAll_cons, ih _ (fun hm => h (by simp at hm ⊢; exact .inr hm)), List.getElem?_set_ne]
    intro e; subst e; exact h (by simp)

/-- the newest sectors are what is stable, one pending write after the other -/
def back (nw st : List Sec) (p : List (Nat × Sec)) : List Sec := p.foldl (fun l x => l.set x.1 (st.getD x.1 sec0)) nw
theorem back_nil (nw st : List Sec) : back nw st [] = nw := rfl
theorem back_snoc (nw st : List Sec) (p : List (Nat × Sec)) (x : Nat × Sec) : back nw st (p ++ [x]) = (back nw st p).set x.1 (st.getD x.1 sec0) := by simp [back]
theorem back_take (nw st : List Sec) (p : List (Nat × Sec)) (j : Nat) (h : j < p.length) : back nw st (p.take (j + 1)) = (back nw st (p.take j)).set p[j].1 (st.getD p[j].1 sec0) := by
  rw [List.take_succ_eq_append_getElem h, back_snoc]
theorem back_length (nw st : List Sec) (p : List (Nat × Sec)) : (back nw st p).length = nw.length := by
  induction p generalizing nw with
  | nil => rfl
  | cons x r ih => show (back (nw.set x.1 _) st r).length = _; rw [ih, List.length_set]
theorem back_get (nw st : List Sec) (p : List (Nat × Sec)) (i : Nat) (hi : i < nw.length) : (back nw st p)[i]? = if i ∈ p.map (·.1) then some (st.getD i sec0) else nw[i]? := by
  induction p generalizing nw with
  | nil => simp [back]
  | cons x r ih =>
    show (back (nw.set x.1 _) st r)[i]? = _
    rw [ih _ (by rw [List.length_set]; exact hi)]
    by_cases h1 : i ∈ r.map (·.1)
    · have : i ∈ (x :: r).map (·.1) := by simp at h1 ⊢; exact .inr h1
      rw [if_pos h1, if_pos this]
    · rw [if_neg h1]
      by_cases h2 : x.1 = i
      · subst h2
        rw [if_pos (by simp), List.getElem?_set_self hi]
      · rw [List.getElem?_set_ne h2, if_neg]
        simp at h1 ⊢
        exact ⟨fun e => h2 e.symm, h1⟩
theorem back_all (m : DevM) (k : Nat → Bool) : back m.now (putAll m.stable (DevM.kept k m.pending)) m.pending = putAll m.stable (DevM.kept k m.pending) := by
  apply List.ext_getElem?
  intro i
  by_cases hi : i < m.now.length
  · have hi2 : i < m.stable.length := by rw [DevM.now_length] at hi; exact hi
    rw [back_get _ _ _ _ hi]
    split
    · rw [List.getD_eq_getElem?_getD, List.getElem?_eq_getElem (by rw [putAll_length]; exact hi2)]
      rfl
    · rename_i hn
      rw [putAll_get _ _ _ (fun hm => hn ?_), DevM.now, putAll_get _ _ _ hn]
      obtain ⟨x, hx, e⟩ := List.mem_map.1 hm
      exact List.mem_map.2 ⟨x, kept_sub k _ x hx, e⟩
  · rw [List.getElem?_eq_none (by rw [back_length]; omega), List.getElem?_eq_none (by rw [putAll_length]; rw [DevM.now_length] at hi; omega)]

/-- a device of which some sectors are as told -/
structure MidAt (w : World) (L : DevL) (m : DevM) (ss ns : List Sec) : Prop where
  base : Blk w L.d 58 [.slice (some ⟨L.sb, 0, none⟩) m.stable.length m.stable.length, .slice (some ⟨L.nb, 0, none⟩) m.stable.length m.stable.length, L.pv, .int .i64 (m.ops : Int), .int .i64 m.left, .bool m.dead]
  st : Blk w L.sb 33 (rowsL secL ss)
  nw : Blk w L.nb 33 (rowsL secL ns)
  pe : w.ownsRow 0 62 129 L.pv m.pending.length (rowsL wrL m.pending)
  ne : L.sb ≠ L.nb
  sl : ss.length = m.stable.length
  nl : ns.length = m.stable.length

section
variable {w w' : World} {L : DevL} {m : DevM} {st nw : List Sec} {F : Nat → Prop}
theorem DevAt.mid (h : DevAt w L m) : MidAt w L m m.stable m.now := ⟨h.base, h.st, h.nw, h.pe, h.ne, rfl, m.now_length⟩
theorem MidAt.ds (h : MidAt w L m st nw) : L.d ≠ L.sb := h.base.ne h.st (by decide)
theorem MidAt.dn (h : MidAt w L m st nw) : L.d ≠ L.nb := h.base.ne h.nw (by decide)
theorem MidAt.dp (h : MidAt w L m st nw) : L.pv.ownBlock ≠ some L.d := Own.ne_blk h.pe h.base (by decide)
theorem MidAt.sp (h : MidAt w L m st nw) : L.pv.ownBlock ≠ some L.sb := Own.ne_blk h.pe h.st (by decide)
theorem MidAt.np (h : MidAt w L m st nw) : L.pv.ownBlock ≠ some L.nb := Own.ne_blk h.pe h.nw (by decide)
theorem MidAt.kept (h : MidAt w L m st nw) (k : Kept F w w') (hn : ∀ i, L.foot i → ¬ F i) : MidAt w' L m st nw :=
  ⟨h.base.kept k (hn _ (.inl rfl)), h.st.kept k (hn _ (.inr (.inl rfl))), h.nw.kept k (hn _ (.inr (.inr (.inl rfl)))), owns_kept h.pe k fun g hg => hn g (.inr (.inr (.inr hg))), h.ne, h.sl, h.nl⟩
theorem MidAt.lt (h : MidAt w L m st nw) : ∀ k, L.foot k → k < w.heap.size := by
  rintro k (rfl | rfl | rfl | e)
  · exact h.base.lt
  · exact h.st.lt
  · exact h.nw.lt
  · exact (World.ownsRow.lt h.pe k e).2
theorem MidAt.drew (h : MidAt w L m st nw) : MidAt w.drew L m st nw := h.kept (F := fun _ => False) (Kept.refl _ w).drew fun _ _ => id
theorem MidAt.alloc (h : MidAt w L m st nw) (o : Obj) : MidAt (w.alloc o) L m st nw := h.kept (F := fun _ => False) (Kept.of_alloc _ _ _) fun _ _ => id
theorem MidAt.putSt (h : MidAt w L m st nw) {st' : List Sec} (hl : st'.length = st.length) (hb : Blk w' L.sb 33 (rowsL secL st')) (k : Kept (· = L.sb) w w') : MidAt w' L m st' nw :=
  ⟨h.base.kept k h.ds, hb, h.nw.kept k h.ne.symm, owns_kept h.pe k (fun g hg e => h.sp (e ▸ hg)), h.ne, hl.trans h.sl, h.nl⟩
theorem MidAt.putNw (h : MidAt w L m st nw) {nw' : List Sec} (hl : nw'.length = nw.length) (hb : Blk w' L.nb 33 (rowsL secL nw')) (k : Kept (· = L.nb) w w') : MidAt w' L m st nw' :=
  ⟨h.base.kept k h.dn, h.st.kept k h.ne, hb, owns_kept h.pe k (fun g hg e => h.np (e ▸ hg)), h.ne, h.sl, hl.trans h.nl⟩
theorem MidAt.c0 (h : MidAt w L m st nw) : w.cell? ⟨L.d, 0, none⟩ = some (.slice (some ⟨L.sb, 0, none⟩) m.stable.length m.stable.length) := by rw [h.base.cell]; rfl
theorem MidAt.c1 (h : MidAt w L m st nw) : w.cell? ⟨L.d, 1, none⟩ = some (.slice (some ⟨L.nb, 0, none⟩) m.stable.length m.stable.length) := by rw [h.base.cell]; rfl
theorem MidAt.c2 (h : MidAt w L m st nw) : w.cell? ⟨L.d, 2, none⟩ = some L.pv := by rw [h.base.cell]; rfl
theorem MidAt.fz (h : MidAt w L m st nw) (i : Nat) : w.frozen? ⟨L.d, i, none⟩ = false := h.base.frozen i
theorem MidAt.stRange (h : MidAt w L m st nw) {i : Nat} (hi : i < st.length) : w.rangeAt L.sb (i * 128) (secL st[i]) := h.st.range fun j v hv => rowsL_at secL_length st i hi j v hv
theorem MidAt.nwRange (h : MidAt w L m st nw) {i : Nat} (hi : i < nw.length) : w.rangeAt L.nb (i * 128) (secL nw[i]) := h.nw.range fun j v hv => rowsL_at secL_length nw i hi j v hv
/-- the k-th pending write -/
theorem MidAt.peRange (h : MidAt w L m st nw) {g n cap : Nat} (hv : L.pv = .slice (some ⟨g, 0, none⟩) n cap) {k : Nat} (hk : k < m.pending.length) : w.rangeAt g (k * 129) (wrL m.pending[k]) := fun j v hj => by
  have hp := h.pe
  rw [hv] at hp
  obtain ⟨ao, c, e, hg⟩ := owns_form hp
  injection e with e1 e2 e3
  subst e2
  have h1 := rowsL_at wrL_length m.pending k hk j v hj
  have hjl : k * 129 + j < (rowsL wrL m.pending).length := (List.getElem?_eq_some_iff.1 h1).1
  rw [World.ownsRow.cellAt hp (k * 129 + j) (by rw [rowsL_length wrL_length] at hjl; omega)]
  exact h1
end
end Go.Proofs.Ytfpacnokecfhmaa
