/- What the law on what is flushed leans on: plain facts; a row of sectors beside a device. -/
import Derived.Test.YtfpacnokecfhmaaActW
import Derived.Test.YtfpacnokecfhmaaOrdL
namespace Go.Proofs.Ytfpacnokecfhmaa
open Go.ChangeShapes Go.WideShapes Go.ChangeAt Go.RowKit
set_option linter.unusedVariables false

theorem rep_getD (n j : Nat) : (List.replicate n sec0).getD j sec0 = sec0 := by
  rw [List.getD_eq_getElem?_getD, List.getElem?_replicate]
  split <;> rfl
/-- is it that sector, or one of the first k? -/
def okB (s fl : Sec) (since : List Sec) (k : Nat) : Bool := decide (s = fl) || (since.take k).any fun x => decide (s = x)
theorem okB_zero (s fl : Sec) (since : List Sec) : okB s fl since 0 = decide (s = fl) := by simp [okB]
theorem okB_succ (s fl : Sec) (since : List Sec) (k : Nat) (h : k < since.length) : okB s fl since (k + 1) = (okB s fl since k || decide (s = since[k])) := by
  unfold okB
  rw [List.take_succ_eq_append_getElem h, List.any_append]
  simp [Bool.or_assoc]
theorem okB_all (s fl : Sec) (since : List Sec) (h : s = fl ∨ s ∈ since) : okB s fl since since.length = true := by
  unfold okB
  rw [List.take_length]
  rcases h with h | h
  · simp [h]
  · simp only [Bool.or_eq_true, List.any_eq_true]
    exact .inr ⟨s, h, by simp⟩
/-- what is written to sector j, in order -/
def toSec (p : List (Nat × Sec)) (j : Nat) : List Sec := (p.filter fun x => decide (x.1 = j)).map (·.2)
theorem toSec_nil (j : Nat) : toSec [] j = [] := rfl
theorem toSec_cons (x : Nat × Sec) (p : List (Nat × Sec)) (j : Nat) : toSec (x :: p) j = if x.1 = j then x.2 :: toSec p j else toSec p j := by
  unfold toSec
  by_cases h : x.1 = j <;> simp [h]
theorem toSec_snoc (p : List (Nat × Sec)) (x : Nat × Sec) (j : Nat) : toSec (p ++ [x]) j = toSec p j ++ (if x.1 = j then [x.2] else []) := by
  unfold toSec
  by_cases h : x.1 = j <;> simp [List.filter_append, h]
theorem putAll_last (l : List Sec) (p : List (Nat × Sec)) (j : Nat) (hj : j < l.length) : (putAll l p).getD j sec0 = (toSec p j).getLastD (l.getD j sec0) := by
  induction p generalizing l with
  | nil => rfl
  | cons x r ih =>
    rw [putAll_cons, ih _ (by rw [List.length_set]; exact hj), toSec_cons]
    by_cases h : x.1 = j
    · subst h
      rw [if_pos rfl, List.getD_eq_getElem?_getD, List.getElem?_set_self hj]
      cases toSec r x.1 <;> rfl
    · rw [if_neg h, List.getD_eq_getElem?_getD, List.getElem?_set_ne h, ← List.getD_eq_getElem?_getD]
theorem getLastD_in (l : List Sec) (d : Sec) : l.getLastD d = d ∨ l.getLastD d ∈ l := by
  induction l generalizing d with
  | nil => exact .inl rfl
  | cons x r ih =>
    rw [List.getLastD_cons]
    rcases ih x with h | h
    · right; rw [h]; exact List.mem_cons_self
    · right; exact List.mem_cons_of_mem _ h
theorem toSec_kept (k : Nat → Bool) (p : List (Nat × Sec)) (j : Nat) : ∀ s ∈ toSec (DevM.kept k p) j, s ∈ toSec p j := by
  intro s hs
  unfold toSec at hs ⊢
  obtain ⟨x, hx, rfl⟩ := List.mem_map.1 hs
  obtain ⟨hx1, hx2⟩ := List.mem_filter.1 hx
  exact List.mem_map.2 ⟨x, List.mem_filter.2 ⟨kept_sub k p x hx1, hx2⟩, rfl⟩

structure KeepsI (m : DevM) (j : Nat) (fl : Sec) (since : List Sec) (k : Nat) : Prop where
  len : m.stable.length = 8
  pend : m.pending.length ≤ k
  fl : m.stable.getD j sec0 = fl
  si : toSec m.pending j = since
namespace KeepsI
variable {m : DevM} {j : Nat} {fl : Sec} {since : List Sec} {k : Nat} (h : KeepsI m j fl since k) (hj : j < 8)
theorem toSec_le (p : List (Nat × Sec)) (j : Nat) : (toSec p j).length ≤ p.length := by
  unfold toSec; rw [List.length_map]; exact List.length_filter_le _ _
theorem spend_ (m : DevM) : m.tick.spend.stable = m.stable ∧ m.tick.spend.pending = m.pending := ⟨DevM.spend_stable _, DevM.spend_pending _⟩
theorem succ (h : KeepsI m j fl since k) : KeepsI m j fl since (k + 1) := ⟨h.len, by have := h.pend; omega, h.fl, h.si⟩
theorem short (h : KeepsI m j fl since k) : since.length ≤ k := by rw [← h.si]; exact Nat.le_trans (toSec_le _ _) h.pend
theorem write_in (h : KeepsI m j fl since k) (i : Int) (s : Sec) (hi : m.has i = true) (hl : m.lasts = true) : ∃ m', m.write i s = (m', 0) ∧ KeepsI m' j fl (since ++ if i = (j : Int) then [s] else []) (k + 1) := by
  have h0 : 0 ≤ i := by simp [DevM.has] at hi; exact hi.1
  refine ⟨{ m.tick.spend with pending := m.pending ++ [(i.toNat, s)] }, by unfold DevM.write; rw [hi, hl]; rfl, ⟨?_, ?_, ?_, ?_⟩⟩
  · show m.tick.spend.stable.length = 8; rw [(spend_ m).1]; exact h.len
  · have := h.pend; simp; omega
  · show m.tick.spend.stable.getD j sec0 = fl; rw [(spend_ m).1]; exact h.fl
  · show toSec (m.pending ++ [(i.toNat, s)]) j = _
    rw [toSec_snoc, h.si]
    by_cases e : i = (j : Int)
    · rw [if_pos e, if_pos (by omega)]
    · rw [if_neg e, if_neg (by omega)]
theorem write_off (h : KeepsI m j fl since k) (i : Int) (s : Sec) (hi : m.has i = true) (hl : m.lasts = false) : ∃ m', m.write i s = (m', 42) ∧ KeepsI m' j fl since (k + 1) :=
  ⟨m.tick.spend, by unfold DevM.write; rw [hi, hl]; rfl, ⟨by rw [(spend_ m).1]; exact h.len, by rw [(spend_ m).2]; have := h.pend; omega, by rw [(spend_ m).1]; exact h.fl, by rw [(spend_ m).2]; exact h.si⟩⟩
theorem write_out (h : KeepsI m j fl since k) (i : Int) (s : Sec) (hi : m.has i = false) : ∃ m', m.write i s = (m', 41) ∧ KeepsI m' j fl since (k + 1) :=
  ⟨m.tick, by unfold DevM.write; rw [hi]; rfl, ⟨h.len, by have := h.pend; show m.pending.length ≤ _; omega, h.fl, h.si⟩⟩
theorem flush_off (h : KeepsI m j fl since k) (hl : m.lasts = false) : ∃ m', m.flush = (m', 42) ∧ KeepsI m' j fl since (k + 1) :=
  ⟨m.tick.spend, by unfold DevM.flush; rw [hl]; rfl, ⟨by rw [(spend_ m).1]; exact h.len, by rw [(spend_ m).2]; have := h.pend; omega, by rw [(spend_ m).1]; exact h.fl, by rw [(spend_ m).2]; exact h.si⟩⟩
theorem flush_on (h : KeepsI m j fl since k) (hj : j < 8) (hl : m.lasts = true) : ∃ m', m.flush = (m', 0) ∧ KeepsI m' j (since.getLastD fl) [] (k + 1) := by
  refine ⟨m.tick.spend.settle (fun _ => true), by unfold DevM.flush; rw [hl]; rfl, ⟨?_, Nat.zero_le _, ?_, rfl⟩⟩
  · refine (putAll_length _ _).trans ?_; rw [(spend_ m).1]; exact h.len
  · show (putAll m.tick.spend.stable (DevM.kept (fun _ => true) m.tick.spend.pending)).getD j sec0 = _
    rw [kept_true, (spend_ m).1, (spend_ m).2, putAll_last _ _ _ (by rw [h.len]; exact hj), h.si, h.fl]
theorem crash_ (h : KeepsI m j fl since k) (hj : j < 8) (bs : List Bool) : (m.crash bs).stab (j : Int) = fl ∨ (m.crash bs).stab (j : Int) ∈ since := by
  have hl : (m.crash bs).stable.length = 8 := (putAll_length _ _).trans h.len
  have hh : (m.crash bs).has (j : Int) = true := by unfold DevM.has; rw [hl]; simp; omega
  have e : (m.crash bs).stab (j : Int) = (toSec (DevM.kept (fun i => bs.getD i false) m.pending) j).getLastD fl := by
    unfold DevM.stab
    rw [hh, if_pos rfl, Int.toNat_natCast]
    show (putAll m.stable (DevM.kept (fun i => bs.getD i false) m.pending)).getD j sec0 = _
    rw [putAll_last _ _ _ (by rw [h.len]; exact hj), h.fl]
  rw [e]
  rcases getLastD_in (toSec (DevM.kept (fun i => bs.getD i false) m.pending) j) fl with h1 | h1
  · exact .inl h1
  · right; rw [← h.si]; exact toSec_kept _ _ _ _ h1
end KeepsI

/-- a device, a sector's variable at X and a row of sectors beside it -/
structure KSt (B : Nat) (w : World) (d : Nat) (F : Nat → Prop) (m : DevM) (X : Nat) (fl : Sec) (v : Value) (since : List Sec) : Prop where
  dev : IsDev w d F m
  low : ∀ k, F k → B ≤ k
  not : ¬ F X
  var : Blk w X 33 (secL fl)
  own : w.ownsRow B 33 128 v since.length (rowsL secL since)
  vX : v.ownBlock ≠ some X
  vF : ∀ g, v.ownBlock = some g → ¬ F g
section
variable {B d X : Nat} {w w' : World} {F F' G : Nat → Prop} {m m' : DevM} {fl fl' : Sec} {v v' : Value} {since : List Sec} (h : KSt B w d F m X fl v since)
theorem KSt.call (h : KSt B w d F m X fl v since) (k : Kept F w w') (h' : IsDev w' d F' m') (g : Grows w.heap.size F F') (hB : B ≤ w.heap.size) : KSt B w' d F' m' X fl v since :=
  ⟨h', g.low h.low hB, g.not h.not h.var.lt, h.var.kept k h.not, owns_kept h.own k h.vF, h.vX, fun x hx => g.not (h.vF x hx) (World.ownsRow.lt h.own x hx).2⟩
theorem KSt.kept (h : KSt B w d F m X fl v since) (k : Kept G w w') (h1 : ∀ i, F i → ¬ G i) (h2 : ¬ G X) (h3 : ∀ g, v.ownBlock = some g → ¬ G g) : KSt B w' d F m X fl v since :=
  ⟨h.dev.kept k h1, h.low, h.not, h.var.kept k h2, owns_kept h.own k h3, h.vX, h.vF⟩
theorem KSt.late (h : KSt B w d F m X fl v since) (k : Kept G w w') (hG : ∀ i, i < w.heap.size → ¬ G i) : KSt B w' d F m X fl v since :=
  h.kept k (fun i hi => hG i (h.dev.lt i hi)) (hG _ h.var.lt) (fun g hg => hG g (World.ownsRow.lt h.own g hg).2)
theorem KSt.alloc (h : KSt B w d F m X fl v since) (o : Obj) : KSt B (w.alloc o) d F m X fl v since := h.late (G := fun _ => False) (Kept.of_alloc _ w o) fun _ _ => id
theorem KSt.setVar (h : KSt B w d F m X fl v since) (k : Kept (· = X) w w') (hb : Blk w' X 33 (secL fl')) : KSt B w' d F m X fl' v since :=
  ⟨h.dev.kept k (fun i hi e => h.not (e ▸ hi)), h.low, h.not, hb, owns_kept h.own k (fun g hg e => h.vX (e ▸ hg)), h.vX, h.vF⟩
theorem KSt.push (h : KSt B w d F m X fl v since) (s : Sec) (hg : w.grownBy w' v.ownBlock) (ho : w'.ownsRow B 33 128 v' (since.length + 1) (rowsL secL since ++ secL s)) (hat : v'.ownBlock = v.ownBlock ∨ v'.ownBlock = some w.heap.size) : KSt B w' d F m X fl v' (since ++ [s]) := by
  have k : Kept (fun k => v.ownBlock = some k) w w' := Kept.of_grown hg (fun k hk _ => hk)
  refine ⟨h.dev.kept k (fun i hi e => h.vF i e hi), h.low, h.not, h.var.kept k h.vX, ?_, ?_, ?_⟩
  · have e : (since ++ [s]).length = since.length + 1 := by simp
    rw [e, rowsL_append, rowsL_one]; exact ho
  · rcases hat with e | e <;> rw [e]
    · exact h.vX
    · intro e'; injection e' with e'; have := h.var.lt; omega
  · intro g hg' hf
    rcases hat with e | e <;> rw [e] at hg'
    · exact h.vF g hg' hf
    · injection hg' with hg'; have := h.dev.lt g hf; omega
theorem KSt.reset (h : KSt B w d F m X fl v since) (hB : B ≤ w.heap.size) : KSt B (w.alloc (.cells #[] 33)) d F m X fl (.slice (some ⟨w.heap.size, 0, none⟩) 0 0) [] := by
  have h1 := h.alloc (.cells #[] 33)
  refine ⟨h1.dev, h1.low, h1.not, h1.var, World.ownsRow_made w #[] 0 hB (by decide) (by simp), ?_, ?_⟩
  · intro e; simp [Value.ownBlock] at e; have := h.var.lt; omega
  · intro g hg hf; simp [Value.ownBlock] at hg; have := h.dev.lt g hf; omega
end
end Go.Proofs.Ytfpacnokecfhmaa
