/- A device: what Rot needs: a store into a row of the call's own; plain facts. -/
import Derived.Test.YtfpacnokecfhmaaVdevI
namespace Go.Proofs.Ytfpacnokecfhmaa
open Go.ChangeShapes Go.WideShapes Go.ChangeAt Go.RowKit
set_option linter.unusedVariables false

section
variable {P : Program} {o : Oper} {a : Act} {w : World} {K : Act → World → Prop} {Q : Exit → Act → World → Prop}
/-- a store of some cells into an owned row -/
theorem wp_store_own (ty : TypeId) (x y : Operand) (ho : o.op = .store ty x y) (g off n cap base size : Nat) (e : TypeId) (xs new : List Value) (hx : a.eval x = .pointer (some ⟨g, off, none⟩)) (vs : List Value) (hy : a.eval y = .agg vs.toArray)
    (hown : w.ownsRow base e size (.slice (some ⟨g, 0, none⟩) n cap) n xs) (hl : off + vs.length ≤ n * size) (h1 : ∀ v ∈ vs, v.oneCell' = true) (hi : (P.info? ty).map (·.size) = some vs.length) (hnew : new = xs.take off ++ vs ++ xs.drop (off + vs.length))
    (h : ∀ w', w'.ownsRow base e size (.slice (some ⟨g, 0, none⟩) n cap) n new → Kept (· = g) w w' → K (a.put o.dst undef) w') : o.wp P a w K Q := by
  obtain ⟨hxl, h0 | ⟨g', cap', cur, hv, hb, hh, hnc, hcm, hcs, htk⟩⟩ := hown
  · obtain ⟨h0, rfl⟩ := h0
    cases h0
  · injection hv with hv1 hv2 hv3
    injection hv1 with hv1
    injection hv1 with hv1 _ _
    subst hv1 hv3
    have hB : Blk w g e cur.toList := by unfold Blk; simpa using hh
    have hcl : n * size ≤ cur.toList.length := by
      have : n * size ≤ cap * size := Nat.mul_le_mul_right _ hnc
      simp; omega
    refine wp_store_blk ty x y ho g off hx vs hy e cur.toList _ hB (by omega) h1 hi rfl fun w' hb' hk' _ => h w' ⟨?_, .inr ⟨g, cap, (cur.toList.take off ++ vs ++ cur.toList.drop (off + vs.length)).toArray, rfl, hb, hb', hnc, hcm, ?_, ?_⟩⟩ hk'
    · rw [hnew]
      simp
      omega
    · simp
      simp at hcl
      omega
    · rw [hnew, ← htk]
      simp only [List.append_assoc]
      rw [List.take_append, List.take_append]
      simp only [List.length_take, List.take_take, List.drop_take]
      rw [Nat.min_eq_left (by omega : off ≤ cur.toList.length), Nat.min_eq_right (by omega : off ≤ n * size), Nat.min_eq_left (by omega : off ≤ n * size)]
      congr 2
      · rw [List.take_of_length_le (by omega)]
      · congr 1; omega
end

/-- the pending writes of which the first k have rotten -/
def rotTo (p : List (Nat × Sec)) (i : Nat) (s : Sec) (k : Nat) : List (Nat × Sec) := ((p.take k).map fun x => (x.1, if x.1 = i then s else x.2)) ++ p.drop k
theorem rotTo_zero (p : List (Nat × Sec)) (i : Nat) (s : Sec) : rotTo p i s 0 = p := by simp [rotTo]
theorem rotTo_length (p : List (Nat × Sec)) (i : Nat) (s : Sec) (k : Nat) : (rotTo p i s k).length = p.length := by simp [rotTo]; omega
theorem rotTo_all (p : List (Nat × Sec)) (i : Nat) (s : Sec) : rotTo p i s p.length = p.map fun x => (x.1, if x.1 = i then s else x.2) := by simp [rotTo]
theorem rotTo_at (p : List (Nat × Sec)) (i : Nat) (s : Sec) (k : Nat) (h : k < p.length) : (rotTo p i s k)[k]'(by rw [rotTo_length]; exact h) = p[k] := by
  simp [rotTo, List.getElem_append_right, Nat.min_eq_left (Nat.le_of_lt h)]
theorem rotTo_succ (p : List (Nat × Sec)) (i : Nat) (s : Sec) (k : Nat) (h : k < p.length) : rotTo p i s (k + 1) = (rotTo p i s k).set k (p[k].1, if p[k].1 = i then s else p[k].2) := by
  unfold rotTo
  have hk : k - ((p.take k).map fun x => (x.1, if x.1 = i then s else x.2)).length = 0 := by simp; omega
  rw [List.take_succ_eq_append_getElem h, List.map_append, List.append_assoc, List.set_append_right _ _ (by simp; omega), hk, List.drop_eq_getElem_cons h, List.set_cons_zero]
  rfl
theorem rotTo_pass (p : List (Nat × Sec)) (i : Nat) (s : Sec) (k : Nat) (h : k < p.length) (hn : p[k].1 ≠ i) : rotTo p i s (k + 1) = rotTo p i s k := by
  rw [rotTo_succ p i s k h, if_neg hn]
  have : rotTo p i s k = (rotTo p i s k).set k ((rotTo p i s k)[k]'(by rw [rotTo_length]; exact h)) := by simp
  rw [rotTo_at p i s k h] at this
  exact this.symm
theorem rot_now (l : List Sec) (p : List (Nat × Sec)) (i : Nat) (s : Sec) : putAll (l.set i s) (p.map fun x => (x.1, if x.1 = i then s else x.2)) = (putAll l p).set i s := by
  induction p generalizing l with
  | nil => rfl
  | cons x r ih =>
    rw [List.map_cons, putAll_cons, putAll_cons, ← ih]
    congr 1
    by_cases e : x.1 = i
    · subst e; simp
    · simp [e, List.set_comm _ _ (fun h => e h.symm)]
/-- one pending write's sector is another one -/
theorem wr_splice (ps : List (Nat × Sec)) (k : Nat) (h : k < ps.length) (s : Sec) : rowsL wrL (ps.set k (ps[k].1, s)) = (rowsL wrL ps).take (k * 129 + 1) ++ secL s ++ (rowsL wrL ps).drop (k * 129 + 1 + (secL s).length) := by
  have hl : k * 129 < (rowsL wrL ps).length := by rw [rowsL_length wrL_length]; omega
  have h0 : (rowsL wrL ps)[k * 129] = .int .i64 (ps[k].1 : Int) := by
    have := rowsL_at wrL_length ps k h 0 (.int .i64 (ps[k].1 : Int)) rfl
    rw [Nat.add_zero, List.getElem?_eq_getElem hl] at this
    exact Option.some.inj this
  rw [rowsL_set wrL_length ps k h, List.take_succ_eq_append_getElem hl, h0, secL_length]
  simp [wrL, Nat.add_assoc]

theorem MidAt.putPe {w w' : World} {L : DevL} {m : DevM} {ss ns : List Sec} {g n cap : Nat} (h : MidAt w L m ss ns) (hv : L.pv = .slice (some ⟨g, 0, none⟩) n cap) {p' : List (Nat × Sec)} (hl : p'.length = m.pending.length)
    (ho : w'.ownsRow 0 62 129 L.pv m.pending.length (rowsL wrL p')) (k : Kept (· = g) w w') : MidAt w' L { m with pending := p' } ss ns := by
  have hg : L.pv.ownBlock = some g := by rw [hv]; rfl
  refine ⟨h.base.kept k (fun e => h.dp (by rw [hg, e])), h.st.kept k (fun e => h.sp (by rw [hg, e])), h.nw.kept k (fun e => h.np (by rw [hg, e])), ?_, h.ne, h.sl, h.nl⟩
  show w'.ownsRow 0 62 129 L.pv p'.length (rowsL wrL p')
  rw [hl]
  exact ho
end Go.Proofs.Ytfpacnokecfhmaa
