/- UberB: the texts UberF, UberG, UberH, UberI, UberK, UberJ, UberL, one behind the other. -/
import Derived.Test.YtfblehdeoloijaaGUber
import Derived.Test.YtfblehdeoloijaaGVdevB
import Derived.Test.YtfblehdeoloijaaGBase
/- A device's ring: Commit. -/
namespace Go.Proofs.Ytfblehdeoloijaa
open Go.ChangeShapes Go.WideShapes Go.ChangeAt Go.RowKit
set_option linter.unusedVariables false
set_option maxRecDepth 20000

/-- a commit, on a device as plain data -/
def DevM.commit (m : DevM) (u : U5) : DevM × Int :=
  if u.rightB = true then
    if m.flush.2 = 0 then
      if (m.flush.1.write ((u.x % 4 : Nat) : Int) u.sec).2 = 0 then (m.flush.1.write ((u.x % 4 : Nat) : Int) u.sec).1.flush
      else m.flush.1.write ((u.x % 4 : Nat) : Int) u.sec
    else m.flush
  else (m, 61)

theorem flush_pending (m : DevM) : m.flush.1.pending.length ≤ m.pending.length := by
  unfold DevM.flush
  split
  · exact Nat.zero_le _
  · rw [DevM.spend_pending]; exact Nat.le_refl _
theorem write_pending (m : DevM) (i : Int) (s : Sec) : (m.write i s).1.pending.length ≤ m.pending.length + 1 := by
  unfold DevM.write
  split
  · split
    · simp
    · rw [DevM.spend_pending]; exact Nat.le_succ _
  · exact Nat.le_succ _
theorem flush_err (m : DevM) : m.flush.2 = 0 ∨ m.flush.2 = 42 := by
  unfold DevM.flush; split
  · exact .inl rfl
  · exact .inr rfl
theorem write_err (m : DevM) (i : Int) (s : Sec) : (m.write i s).2 = 0 ∨ (m.write i s).2 = 42 ∨ (m.write i s).2 = 41 := by
  unfold DevM.write; split
  · split
    · exact .inl rfl
    · exact .inr (.inl rfl)
  · exact .inr (.inr rfl)

section
variable {w w' w'' : World} {d : Nat} {F F' : Nat → Prop} {m m' m'' : DevM}
theorem IsDev.fd (h : IsDev w d F m) : F d := by obtain ⟨L, rfl, _, h2, _⟩ := h; exact h2 _ (.inl rfl)
/-- what a call leaves, seen from a world ahead of it -/
theorem Turned.ahead {w0 : World} (h : Turned w d F m' w') (k : Kept F w0 w) (hF : ∀ i, F i → i < w0.heap.size ∨ w0.heap.size ≤ i) : Turned w0 d F m' w' := by
  obtain ⟨F', h1, h2, h3⟩ := h
  refine ⟨F', h1, k.trans h2, fun i hi => ?_⟩
  rcases h3 i hi with e | e
  · exact .inl e
  · exact .inr (Nat.le_trans k.size e)
/-- one call behind another -/
theorem Turned.next {w0 : World} {F0 : Nat → Prop} (h : Turned w d F m' w') (k : Kept F0 w0 w) (g : Grows w0.heap.size F0 F) : Turned w0 d F0 m' w' := by
  obtain ⟨F', h1, h2, h3⟩ := h
  refine ⟨F', h1, k.then h2 (fun i hi hf => by rcases g i hf with e | e; exact e; omega), fun i hi => ?_⟩
  rcases h3 i hi with e | e
  · exact g i e
  · exact .inr (Nat.le_trans k.size e)
end

set_option maxHeartbeats 4000000 in
theorem oCommit_no {w : World} {d : Nat} {F : Nat → Prop} {m : DevM} (h : IsDev w d F m) (u : U5) (hu : u.Fit) (hr : u.rightB = false) :
    Calls Try.prog 21 #[.pointer (some ⟨d, 0, none⟩), u5V u] w fun e w' => e = .returned (.int .i64 61) ∧ Turned w d F m w' := by
  have hB := fun W => uBytes_any u W hu
  have hN : u.secO = none := by unfold U5.secO; rw [hr]; rfl
  rw [hN] at hB
  have hz := zeroSec
  obtain ⟨x, y, ⟨a, b, sm⟩, l, n⟩ := u
  unfold u5V at *
  dsimp only at *
  have hB := Lib.hid hB
  clear hu hr hN
  go_enter Try.func21, Try.ntmps21
  go_wp2_with fail
  refine (hB.out _).mono ?_
  intro e w2 hR
  obtain ⟨rfl, hb2⟩ : e = .returned (.tuple #[.agg (secL sec0).toArray, .int .i64 61]) ∧ _ := hR
  have q2 := Lib.hid (below_boxed hb2)
  clear hb2
  go_wp2_with ((with_reducible refine guardList ?_)
               refine wantList_store (by rfl) 34 _ _ rfl w2.heap.size 0 (by rfl) (secL sec0) (by rfl) _ (secL sec0) (secL sec0) (Blk.new w2 34 (secL sec0)) (by simp only [secL_length]; decide) (secL_one _) (infoSecL _) whole_sec ?_
               intro w3 hV k3 z3
               have k3 := Lib.hid k3
               have z3 := Lib.hid z3)
  go_ret
  have q3 : Below w.heap.size w w3 := Kept.out (q2.out.alloc q2.out.size _) k3.out (fun i _ e => by have := q2.out.size; omega) (by have := q2.out.size; simp; omega)
  exact ⟨rfl, F, h.below q3, Kept.of_below q3 _, fun i hi => .inl hi⟩

set_option maxHeartbeats 4000000 in
theorem oCommit_yes {w : World} {d : Nat} {F : Nat → Prop} {m : DevM} (h : IsDev w d F m) (hp : m.pending.length ≤ 900000000) (u : U5) (hu : u.Fit) (hr : u.rightB = true) :
    Calls Try.prog 21 #[.pointer (some ⟨d, 0, none⟩), u5V u] w fun e w' => e = .returned (.int .i64 (m.commit u).2) ∧ Turned w d F (m.commit u).1 w' := by
  have hB := fun W => uBytes_any u W hu
  have hN : u.secO = some u.sec := by unfold U5.secO; rw [hr]; rfl
  rw [hN] at hB
  have hC : Hid (m.commit u = if m.flush.2 = 0 then
      if (m.flush.1.write ((u.x % 4 : Nat) : Int) u.sec).2 = 0 then (m.flush.1.write ((u.x % 4 : Nat) : Int) u.sec).1.flush
      else m.flush.1.write ((u.x % 4 : Nat) : Int) u.sec
    else m.flush) := Lib.hid (by unfold DevM.commit; rw [if_pos hr])
  have hpl := fun W => uplace_any u W hu
  have hz := zeroSec
  generalize m.commit u = MC at *
  generalize u.sec = SS at *
  have hx := hu.1
  obtain ⟨x, y, ⟨a, b, sm⟩, l, n⟩ := u
  unfold u5V at *
  dsimp only at *
  have hB := Lib.hid hB
  have hpl := Lib.hid hpl
  have hS := Lib.hid (secL_length SS)
  have hfe := flush_err m
  have hp1 := flush_pending m
  clear hu hr hN
  have h := Lib.hid h
  obtain ⟨mf, hmf⟩ : ∃ mf, mf = m.flush := ⟨_, rfl⟩
  rw [← hmf] at hfe hp1
  have hC := Lib.hid (show _ from by have := hC.out; rw [← hmf] at this; exact this)
  obtain ⟨m1, e1⟩ := mf
  dsimp only at hfe hp1
  have hmf := Lib.hid hmf
  go_enter Try.func21, Try.ntmps21
  go_wp2_with fail
  refine (hB.out _).mono ?_
  intro e w2 hR
  obtain ⟨rfl, hb2⟩ : e = .returned (.tuple #[.agg (secL SS).toArray, .int .i64 0]) ∧ _ := hR
  have hU2 : Hid (Blk w2 w.heap.size 27 (u5L ⟨x, y, ⟨a, b, sm⟩, l, n⟩)) := Lib.hid (blk_out (Blk.new w _ (u5L ⟨x, y, ⟨a, b, sm⟩, l, n⟩)) hb2)
  have q2 := Lib.hid (below_boxed hb2)
  clear hb2
  go_wp2_with (first
    | ((with_reducible refine guardList ?_)
       refine wantList_store (by rfl) 34 _ _ rfl w2.heap.size 0 (by rfl) (secL SS) (by rfl) _ (secL sec0) (secL SS) (Blk.new w2 34 (secL sec0)) (by simp only [secL_length]; decide) (secL_one _) (infoSecL _) whole_sec ?_
       intro w3 hV k3 z3
       have hV3 := Lib.hid hV
       have k3 := Lib.hid k3
       have z3 := Lib.hid z3
       clear hV))
  have hU3 := Lib.hid ((hU2.out.alloc (.cells (secL sec0).toArray 34)).kept k3.out (by have := hU2.out.lt; omega))
  have q3 : Hid (Below w.heap.size w w3) := Lib.hid (Kept.out (q2.out.alloc q2.out.size _) k3.out (fun i _ e => by have := q2.out.size; omega) (by have := q2.out.size; simp; omega))
  have hD3 := Lib.hid (h.out.below q3.out)
  have hlt2 : Hid (w.heap.size < w2.heap.size) := Lib.hid hU2.out.lt
  refine (o_Flush hD3.out (by omega)).mono ?_
  rw [← hmf.out]
  rintro e w4 ⟨rfl, F4, hD4, kk4, g4⟩
  have n1 : ¬ F4 w.heap.size := g4.not (fun hf => by have := h.out.lt _ hf; omega) hU3.out.lt
  have n2 : ¬ F4 w2.heap.size := g4.not (fun hf => by have := h.out.lt _ hf; have := hlt2.out; omega) hV3.out.lt
  have hU4 := Lib.hid (hU3.out.kept kk4 (fun hf => by have := h.out.lt _ hf; omega))
  have hV4 := Lib.hid (hV3.out.kept kk4 (fun hf => by have := h.out.lt _ hf; have := hlt2.out; omega))
  have k4 := Lib.hid ((Kept.of_below q3.out F).trans kk4)
  have g4 : Hid (Grows w.heap.size F F4) := Lib.hid (fun i hi => by
    rcases g4 i hi with e | e
    · exact .inl e
    · exact .inr (Nat.le_trans q3.out.size e))
  have hD4 := Lib.hid hD4
  clear kk4
  dsimp only
  rcases hfe with rfl | rfl
  · have hp5 : Hid (m1.pending.length ≤ 1000000000) := Lib.hid (by omega)
    have hx4 : x % 4 < 4 := Nat.mod_lt _ (by decide)
    have hwe := write_err m1 ((x % 4 : Nat) : Int) SS
    have hwp := write_pending m1 ((x % 4 : Nat) : Int) SS
    obtain ⟨mw, hmw⟩ : ∃ mw, mw = m1.write ((x % 4 : Nat) : Int) SS := ⟨_, rfl⟩
    have hC := Lib.hid (show MC = if mw.2 = 0 then mw.1.flush else mw by rw [hC.out, if_pos rfl, hmw])
    rw [← hmw] at hwe hwp
    obtain ⟨m2, e2⟩ := mw
    dsimp only at hwe hwp
    have hmw := Lib.hid hmw
    obtain ⟨xm, hxm⟩ : ∃ xm : Nat, Hid (xm = x % 4) := ⟨_, Lib.hid rfl⟩
    rw [← hxm.out] at hmw hx4
    have hpl : Hid (∀ W, Calls Try.prog 48 #[.agg #[.int .u64 (x : Int), .int .u64 (y : Int), .int .i64 a, .int .u64 (b : Int), .int .u32 (sm : Int), .int .i64 l, .int .i64 n]] W fun e w' => e = .returned (.int .i64 (xm : Int)) ∧ Below W.heap.size W w') := Lib.hid (fun W => by rw [hxm.out]; exact hpl.out W)
    go_wp2
    refine inO_region [(1, fun w' => w'.rangeAt (w.heap.size) (0) (u5L ⟨x, y, ⟨a, b, sm⟩, l, n⟩)), (3, fun w' => w'.rangeAt (w2.heap.size) (0) (secL SS))] (by kernel_rfl) (Owed.cons (range_blk hU4.out) (Owed.cons (range_blk hV4.out) (Owed.nil _ _))) ?_
    refine inO_take 0 ⟨_, _, _, _, _, _⟩ (.pointer (some ⟨d, 0, none⟩)) rfl (by kernel_rfl) (by kernel_rfl) (by kernel_rfl) (fun _ _ _ h => h) rfl (fun ww => exec_move (by rfl) (by rfl) ww) ?_
    simp only [Act.put, List.setIfInBounds_toArray, List.set_cons_zero, List.set_cons_succ]
    refine inO_load 1 ⟨_, _, _, _, _, _⟩ (.agg (u5L ⟨x, y, ⟨a, b, sm⟩, l, n⟩).toArray) (fun w' => w'.rangeAt (w.heap.size) (0) (u5L ⟨x, y, ⟨a, b, sm⟩, l, n⟩)) rfl (by kernel_rfl) (by kernel_rfl) (by kernel_rfl) (fun _ _ _ h => h) rfl (.head _) (fun ww hw => exec_load_mid _ _ (by rfl) _ _ (by rfl) _ _ hw Try.underlying27 rfl (infoUberL _)) ?_
    simp only [Act.put, List.setIfInBounds_toArray, List.set_cons_zero, List.set_cons_succ]
    refine inO_load 3 ⟨_, _, _, _, _, _⟩ (.agg (secL SS).toArray) (fun w' => w'.rangeAt (w2.heap.size) (0) (secL SS)) rfl (by kernel_rfl) (by kernel_rfl) (by kernel_rfl) (fun _ _ _ h => h) rfl (.tail _ (.head _)) (fun ww hw => exec_load_mid _ _ (by rfl) _ _ (by rfl) _ _ hw Try.underlying34 rfl (infoSecL _)) ?_
    simp only [Act.put, List.setIfInBounds_toArray, List.set_cons_zero, List.set_cons_succ]
    refine inO_step 2 ⟨_, _, _, _, _, _⟩ rfl (by kernel_rfl) rfl (fun K hK => ?_)
    refine wp_call Try.func48 (by kernel_rfl) rfl _ _ rfl _ rfl _ (hpl.out w4.drew) fun e wA h => ?_
    obtain ⟨rfl, bA⟩ := h
    have hD5 := Lib.hid (hD4.out.drew.below bA)
    have k5 := Lib.hid ((k4.out.drew.trans (Kept.of_below bA _)))
    refine ⟨_, rfl, ?_⟩
    refine hK _ _ (Keeps.late (by kernel_rfl) (Keeps.cons (fun hh => range_below hh bA) (Keeps.nil _ _ _))) ?_
    clear hK K
    simp only [Act.put, List.setIfInBounds_toArray, List.set_cons_zero, List.set_cons_succ]
    refine inO_step 4 ⟨_, _, _, _, _, _⟩ rfl (by kernel_rfl) rfl (fun K hK => ?_)
    refine wp_call Try.func31 (by kernel_rfl) rfl _ _ rfl _ rfl _ (o_Write hD5.out (xm : Int) (by unfold I64; omega) SS hp5.out) fun e wB h => ?_
    rw [← hmw.out] at h
    obtain ⟨rfl, F6, hD6, k6, g6⟩ := h
    refine ⟨_, rfl, ?_⟩
    refine hK _ _ (Keeps.late (by kernel_rfl) (Keeps.late (by kernel_rfl) (Keeps.nil _ _ _))) ?_
    clear hK K
    simp only [Act.put, List.setIfInBounds_toArray, List.set_cons_zero, List.set_cons_succ]
    refine inO_take 5 ⟨_, _, _, _, _, _⟩ (.int .i64 e2) rfl (by kernel_rfl) (by kernel_rfl) (by kernel_rfl) (fun _ _ _ h => h) rfl (fun ww => by go_simp) ?_
    simp only [Act.put, List.setIfInBounds_toArray, List.set_cons_zero, List.set_cons_succ]
    refine inO_done (by kernel_rfl) ?_
    have hT6 : Turned w d F m2 wB := Turned.next ⟨F6, hD6, k6, g6⟩ k5.out g4.out
    obtain ⟨F7, hD7, k7, g7⟩ := hT6
    have hD7 := Lib.hid hD7
    have k7 := Lib.hid k7
    have g7 := Lib.hid g7
    clear hD6 k6 g6
    rcases hwe with rfl | rfl | rfl
    · go_wp2_with fail
      refine (o_Flush hD7.out (by omega)).mono ?_
      rintro e w8 ⟨rfl, T⟩
      have hT := T.next k7.out g7.out
      have hT := Lib.hid hT
      clear T
      go_wp2
      go_ret
      rw [hC.out]
      exact ⟨rfl, hT.out⟩
    · go_wp2
      go_ret
      rw [hC.out]
      exact ⟨rfl, F7, hD7.out, k7.out, g7.out⟩
    · go_wp2
      go_ret
      rw [hC.out]
      exact ⟨rfl, F7, hD7.out, k7.out, g7.out⟩
  · go_wp2
    go_ret
    rw [hC.out]
    exact ⟨rfl, F4, hD4.out, k4.out, g4.out⟩
theorem oCommit {w : World} {d : Nat} {F : Nat → Prop} {m : DevM} (h : IsDev w d F m) (hp : m.pending.length ≤ 900000000) (u : U5) (hu : u.Fit) :
    Calls Try.prog 21 #[.pointer (some ⟨d, 0, none⟩), u5V u] w fun e w' => e = .returned (.int .i64 (m.commit u).2) ∧ Turned w d F (m.commit u).1 w' := by
  cases hr : u.rightB with
  | true => exact oCommit_yes h hp u hu hr
  | false =>
    have : m.commit u = (m, 61) := by unfold DevM.commit; rw [if_neg (by rw [hr]; decide)]
    rw [this]
    exact oCommit_no h u hu hr
end Go.Proofs.Ytfblehdeoloijaa

/- A device's ring: which ubers there are, by rising numbers, as plain data. -/
namespace Go.Proofs.Ytfblehdeoloijaa
open Go.ChangeShapes Go.WideShapes Go.ChangeAt Go.RowKit
set_option linter.unusedVariables false
set_option maxRecDepth 20000

/-- the uber of sector i, if it is one of its place -/
def DevM.slot (m : DevM) (i : Nat) : Option U5 :=
  if (m.read (i : Int)).2 = 0 then
    match u5O (m.read (i : Int)).1 with
    | some u => if u.x % 4 = i then some u else none
    | none => none
  else none
def optL {α : Type} : Option α → List α
  | some x => [x]
  | none => []
/-- those of the first k sectors -/
def DevM.slots (m : DevM) : Nat → List U5
  | 0 => []
  | k + 1 => m.slots k ++ optL (m.slot k)
/-- one more, in its place -/
def insU (u : U5) : List U5 → List U5
  | [] => [u]
  | x :: r => if u.x < x.x then u :: x :: r else x :: insU u r
def DevM.lists (m : DevM) : Nat → List U5
  | 0 => []
  | k + 1 => match m.slot k with
    | some u => insU u (m.lists k)
    | none => m.lists k
def DevM.list (m : DevM) : List U5 := m.lists 4
def lastU (l : List U5) : Option U5 := l.getLast?
def DevM.best (m : DevM) : Option U5 := lastU m.list

theorem slot_x {m : DevM} {i : Nat} {u : U5} (h : m.slot i = some u) : u.x % 4 = i ∧ u5O (m.read (i : Int)).1 = some u := by
  unfold DevM.slot at h
  split at h
  · split at h
    · split at h
      · rename_i h1 h2; simp only [Option.some.injEq] at h; subst h; exact ⟨h2, h1⟩
      · cases h
    · cases h
  · cases h
theorem read_tick (m : DevM) (i : Int) : m.tick.read i = m.read i := rfl
theorem slot_tick (m : DevM) (i : Nat) : m.tick.slot i = m.slot i := rfl
theorem lists_tick (m : DevM) (k : Nat) : m.tick.lists k = m.lists k := by
  induction k with
  | zero => rfl
  | succ k ih => unfold DevM.lists; rw [slot_tick, ih]
theorem list_tick (m : DevM) : m.tick.list = m.list := lists_tick m 4
theorem best_tick (m : DevM) : m.tick.best = m.best := by unfold DevM.best; rw [list_tick]
/-- k calls that turn nothing else -/
def DevM.ticks (m : DevM) : Nat → DevM
  | 0 => m
  | k + 1 => (m.ticks k).tick
theorem read_ticks (m : DevM) (k : Nat) (i : Int) : (m.ticks k).read i = m.read i := by
  induction k with
  | zero => rfl
  | succ k ih => exact ih
theorem list_ticks (m : DevM) (k : Nat) : (m.ticks k).list = m.list := by
  induction k with
  | zero => rfl
  | succ k ih => unfold DevM.ticks; rw [list_tick]; exact ih
theorem insU_perm (u : U5) (l : List U5) : (insU u l).Perm (u :: l) := by
  induction l with
  | nil => exact List.Perm.refl _
  | cons x r ih =>
    unfold insU
    split
    · exact List.Perm.refl _
    · exact ((List.Perm.cons x ih).trans (List.Perm.swap u x r))
theorem insU_length (u : U5) (l : List U5) : (insU u l).length = l.length + 1 := by
  have := (insU_perm u l).length_eq; simpa using this
theorem lists_perm (m : DevM) (k : Nat) : (m.lists k).Perm (m.slots k) := by
  induction k with
  | zero => exact List.Perm.refl _
  | succ k ih =>
    unfold DevM.lists DevM.slots
    cases h : m.slot k with
    | none => simpa [optL] using ih
    | some u =>
      refine (insU_perm u _).trans ?_
      exact ((List.Perm.cons u ih).trans (List.perm_append_singleton u (m.slots k)).symm)
theorem slots_length (m : DevM) (k : Nat) : (m.slots k).length ≤ k := by
  induction k with
  | zero => exact Nat.le_refl _
  | succ k ih =>
    unfold DevM.slots
    rw [List.length_append]
    cases m.slot k <;> simp [optL] <;> omega
theorem lists_length (m : DevM) (k : Nat) : (m.lists k).length ≤ k := by rw [(lists_perm m k).length_eq]; exact slots_length m k
/-- each of them is of its own sector -/
theorem slots_mem {m : DevM} {k : Nat} {u : U5} (h : u ∈ m.slots k) : u.x % 4 < k ∧ m.slot (u.x % 4) = some u := by
  induction k with
  | zero => cases h
  | succ k ih =>
    unfold DevM.slots at h
    rcases List.mem_append.1 h with h | h
    · exact ⟨Nat.lt_succ_of_lt (ih h).1, (ih h).2⟩
    · cases hs : m.slot k with
      | none => rw [hs] at h; cases h
      | some v =>
        rw [hs] at h
        simp only [optL, List.mem_singleton] at h
        subst h
        have := (slot_x hs).1
        exact ⟨by omega, by rw [this]; exact hs⟩
theorem slots_of {m : DevM} {k i : Nat} {u : U5} (hi : i < k) (h : m.slot i = some u) : u ∈ m.slots k := by
  induction k with
  | zero => omega
  | succ k ih =>
    unfold DevM.slots
    rw [List.mem_append]
    by_cases e : i = k
    · subst e; right; rw [h]; exact List.mem_singleton.2 rfl
    · exact .inl (ih (by omega))
theorem list_mem {m : DevM} {u : U5} : u ∈ m.list ↔ m.slot (u.x % 4) = some u := by
  unfold DevM.list
  rw [(lists_perm m 4).mem_iff]
  exact ⟨fun h => (slots_mem h).2, fun h => slots_of (Nat.mod_lt _ (by decide)) h⟩
/-- by rising numbers, no number twice -/
def UpU (l : List U5) : Prop := l.Pairwise fun u v => u.x < v.x
theorem insU_mem {u v : U5} {l : List U5} : v ∈ insU u l ↔ v = u ∨ v ∈ l := by rw [(insU_perm u l).mem_iff]; simp
theorem insU_up {u : U5} {l : List U5} (h : UpU l) (hn : ∀ v ∈ l, v.x ≠ u.x) : UpU (insU u l) := by
  induction l with
  | nil => exact List.pairwise_singleton _ _
  | cons x r ih =>
    unfold UpU at h
    rw [List.pairwise_cons] at h
    unfold insU
    split
    · rename_i hlt
      refine List.pairwise_cons.2 ⟨fun v hv => ?_, List.pairwise_cons.2 h⟩
      rcases List.mem_cons.1 hv with rfl | hv
      · exact hlt
      · exact Nat.lt_trans hlt (h.1 v hv)
    · rename_i hlt
      refine List.pairwise_cons.2 ⟨fun v hv => ?_, ih h.2 fun v hv => hn v (List.mem_cons_of_mem _ hv)⟩
      rcases insU_mem.1 hv with rfl | hv
      · have := hn x (List.mem_cons_self ..); omega
      · exact h.1 v hv
theorem lists_up (m : DevM) (k : Nat) : UpU (m.lists k) := by
  induction k with
  | zero => exact List.Pairwise.nil
  | succ k ih =>
    unfold DevM.lists
    cases h : m.slot k with
    | none => exact ih
    | some u =>
      refine insU_up ih fun v hv e => ?_
      have h1 := slots_mem ((lists_perm m k).mem_iff.1 hv)
      have h2 := (slot_x h).1
      rw [e] at h1
      omega
/-- a list by rising numbers is told by what is in it -/
theorem up_eq {xs ys : List U5} (hx : UpU xs) (hy : RiseU ys) (hp : ys.Perm xs) : ys = xs := by
  induction xs generalizing ys with
  | nil => exact hp.eq_nil
  | cons x r ih =>
    unfold UpU at hx
    rw [List.pairwise_cons] at hx
    cases ys with
    | nil => exact absurd hp.symm (List.not_perm_cons_nil)
    | cons y s =>
      unfold RiseU at hy
      rw [List.pairwise_cons] at hy
      have e : y = x := by
        have h1 : x ∈ y :: s := hp.mem_iff.2 (List.mem_cons_self ..)
        rcases List.mem_cons.1 h1 with h1 | h1
        · exact h1.symm
        · have h2 : y ∈ x :: r := hp.mem_iff.1 (List.mem_cons_self ..)
          rcases List.mem_cons.1 h2 with h2 | h2
          · exact h2
          · exact absurd (hx.1 y h2) (hy.1 x h1)
      subst e
      rw [ih hx.2 hy.2 (List.Perm.cons_inv hp)]
end Go.Proofs.Ytfblehdeoloijaa

/- A device's ring: List and Best. -/
namespace Go.Proofs.Ytfblehdeoloijaa
open Go.ChangeShapes Go.WideShapes Go.ChangeAt Go.RowKit
set_option linter.unusedVariables false
set_option maxRecDepth 20000

/-- in the midst of List: the device, and the list so far -/
structure LS (w0 w : World) (d : Nat) (F0 F : Nat → Prop) (m : DevM) (v : Value) (xs : List U5) : Prop where
  dev : IsDev w d F m
  k : Kept F0 w0 w
  g : Grows w0.heap.size F0 F
  own : w.ownsRow w0.heap.size 27 7 v xs.length (rowsL u5L xs)
  ap : ∀ b, v.ownBlock = some b → ¬ F b
namespace LS
variable {w0 w w' : World} {d : Nat} {F0 F F' : Nat → Prop} {m m' : DevM} {v v' : Value} {xs : List U5}
theorem lt (h : LS w0 w d F0 F m v xs) : ∀ b, v.ownBlock = some b → w0.heap.size ≤ b ∧ b < w.heap.size := World.ownsRow.lt h.own
theorem below (h : LS w0 w d F0 F m v xs) (hb : Below w.heap.size w w') : LS w0 w' d F0 F m v xs :=
  ⟨h.dev.below hb, h.k.trans (Kept.of_below hb _), h.g, owns_kept (F := fun _ => False) h.own (Kept.of_below hb _) (fun _ _ => id), h.ap⟩
theorem alloc (h : LS w0 w d F0 F m v xs) (o : Obj) : LS w0 (w.alloc o) d F0 F m v xs := h.below ((Below.refl _ _).alloc (Nat.le_refl _) o)
theorem over {G : Nat → Prop} (h : LS w0 w d F0 F m v xs) (k : Kept G w w') (h1 : ∀ i, F i → ¬ G i) (h2 : ∀ b, v.ownBlock = some b → ¬ G b) (h3 : ∀ i, i < w0.heap.size → ¬ G i) : LS w0 w' d F0 F m v xs :=
  ⟨h.dev.kept k h1, h.k.then k (fun i hi hg => absurd hg (h3 i hi)), h.g, owns_kept h.own k h2, h.ap⟩
theorem turn (h : LS w0 w d F0 F m v xs) (T : Turned w d F m' w') : ∃ F', LS w0 w' d F0 F' m' v xs := by
  obtain ⟨F1, h1, h2, h3⟩ := T
  refine ⟨F1, h1, h.k.then h2 (fun i hi hf => by rcases h.g i hf with e | e; exact e; omega), fun i hi => ?_, owns_kept h.own h2 h.ap, fun b hb hf => ?_⟩
  · rcases h3 i hi with e | e
    · exact h.g i e
    · exact .inr (Nat.le_trans h.k.size e)
  · rcases h3 b hf with e | e
    · exact h.ap b hb e
    · have := (h.lt b hb).2; omega
theorem push (h : LS w0 w d F0 F m v xs) (u : U5) (ho : w'.ownsRow w0.heap.size 27 7 v' (xs.length + 1) (rowsL u5L xs ++ u5L u)) (hg : Grew w w' v v') : LS w0 w' d F0 F m v' (xs ++ [u]) := by
  refine ⟨h.dev.kept (Kept.of_grown (F := fun k => v.ownBlock = some k) hg.1 (fun k hk _ => hk)) (fun i hf e => h.ap i e hf), ?_, h.g, ?_, ?_⟩
  · exact h.k.then (Kept.of_grown (F := fun k => v.ownBlock = some k) hg.1 (fun k hk _ => hk)) (fun i hi e => by have := (h.lt i e).1; omega)
  · rw [rowsL_append, rowsL_one, List.length_append]; exact ho
  · intro b hb hf
    rcases hg.2 with e | ⟨g, e, hl⟩
    · exact h.ap b (by rw [← e]; exact hb) hf
    · rw [e] at hb
      cases hb
      have := h.dev.lt _ hf
      omega
end LS

theorem infoUber3 : (Try.prog.info? 27).map (fun i => (i.zero, i.size, i.bytes)) = some (some (.agg (u5L u5z).toArray), 7, 56) := by kernel_rfl

theorem uPlace_at (u : U5) (w : World) (h : u.Fit) : Calls Try.prog 48 #[.agg (u5L u).toArray] w fun e w' => e = .returned (.int .i64 ((u.x % 4 : Nat) : Int)) ∧ Below w.heap.size w w' := uplace_any u w h
theorem u5O_fit {s : Sec} {u : U5} (h : u5O s = some u) : u.Fit := by
  unfold u5O at h
  split at h
  · cases h; exact u5Of_fit s
  · cases h

/-- a list of ubers that came of a call -/
def ListAt (w w' : World) (F' : Nat → Prop) (ao : Option Addr) (xs : List U5) : Prop := Reads w' ao (rowsL u5L xs) ∧ ∀ a, ao = some a → w.heap.size ≤ a.block ∧ ¬ F' a.block

set_option maxHeartbeats 8000000 in
theorem oList {w : World} {d : Nat} {F : Nat → Prop} {m : DevM} (h : IsDev w d F m) :
    Calls Try.prog 25 #[.pointer (some ⟨d, 0, none⟩)] w fun e w' => ∃ ao cap F', e = .returned (.slice ao m.list.length cap) ∧ IsDev w' d F' (m.ticks 4) ∧ Kept F w w' ∧ Grows w.heap.size F F' ∧ ListAt w w' F' ao m.list ∧ (ao = none → cap = 0) := by
  obtain ⟨i0, hi, hz0, hz1, hz2⟩ := info_parts infoUber3
  have hz := zeroSec
  have h0 : Hid (LS w w d F F m (.slice none 0 0) []) := Lib.hid ⟨h, Kept.refl _ _, fun i hi => .inl hi, World.ownsRow_nil _ _ _ _, fun b hb => by cases hb⟩
  go_enter Try.func25, Try.ntmps25
  go_wp2
  go_loopw [3, 9] (fun v i wr => ∃ (k : Nat) (Fk : Nat → Prop), k ≤ 4 ∧ i = .int .i64 k ∧ Hid (LS w wr d F Fk (m.ticks k) v (m.slots k)))
    (fun _ i _ => (4 - intOf i).toNat)
  case atStart => exact ⟨0, F, by omega, by go_num, h0⟩
  case round =>
    clear h0
    obtain ⟨k, Fk, hk, rfl, hL⟩ := hrel
    by_cases hlt : k < 4
    · obtain ⟨s, er, hse⟩ : ∃ s er, m.read (k : Int) = (s, er) := ⟨_, _, rfl⟩
      have hse := Lib.hid hse
      go_wp2_with fail
      refine (o_Read hL.out.dev (k : Int) (by unfold I64; omega)).mono ?_
      rw [read_ticks, hse.out]
      rintro e w1 ⟨rfl, T1⟩
      obtain ⟨F1, hL1⟩ := hL.out.turn T1
      clear T1
      have hL1 := Lib.hid hL1
      have hS := Lib.hid (secL_length s)
      have hno : m.slot k = none → Hid (m.slots (k + 1) = m.slots k) := fun hn => Lib.hid (by show m.slots k ++ optL (m.slot k) = _; rw [hn]; simp [optL])
      by_cases her : er = 0
      · subst her
        cases ho : u5O s with
        | none =>
          have hsl := hno (by unfold DevM.slot; rw [hse.out]; simp [ho])
          clear hno
          go_wp2_with (first
          | ((with_reducible refine guardList ?_)
             refine wantList_store (by rfl) 34 _ _ rfl w1.heap.size 0 (by rfl) (secL s) (by rfl) _ (secL sec0) (secL s) (Blk.new w1 34 (secL sec0)) (by simp only [secL_length]; decide) (secL_one _) (infoSecL _) whole_sec ?_
             intro w2 hV k2 z2
             have hV2 := Lib.hid hV
             have hL2 := Lib.hid ((hL1.out.alloc (.cells (secL sec0).toArray 34)).over k2 (fun i hf e => by have := hL1.out.dev.lt i hf; omega) (fun b hb e => by have := (hL1.out.lt b hb).2; omega) (fun i hi e => by have := hL1.out.k.size; omega))
             clear k2 z2 hV)
          | ((with_reducible refine guardList ?_); refine wantList_load (by rfl) 34 _ rfl w1.heap.size 0 (by rfl) (secL s) _ (range_blk hV2.out) Try.underlying34 rfl (infoSecL _) ?_))
          refine (uRead_any s _).mono ?_
          rw [ho]
          intro e w3 hR
          obtain ⟨rfl, hb3⟩ : e = .returned (.tuple #[.agg #[.int .u64 0, .int .u64 0, .int .i64 0, .int .u64 0, .int .u32 0, .int .i64 0, .int .i64 0], .bool false]) ∧ _ := hR
          have hL3 := Lib.hid (hL2.out.below hb3)
          clear hb3
          go_wp2
          go_roundw
          case rel => exact ⟨k + 1, F1, by omega, by go_num, Lib.hid (by rw [hsl.out]; exact hL3.out.alloc _)⟩
          case measure => simp [intOf] <;> omega

        | some u =>
          have hfit := u5O_fit ho
          have hpl := fun W => uplace_any u W hfit
          have hin : u.x % 4 = k → Hid (m.slots (k + 1) = m.slots k ++ [u]) := fun e => Lib.hid (by show m.slots k ++ optL (m.slot k) = _; unfold DevM.slot; rw [hse.out]; simp [ho, e, optL])
          have hout : u.x % 4 ≠ k → Hid (m.slots (k + 1) = m.slots k) := fun e => hno (by unfold DevM.slot; rw [hse.out]; simp [ho, e])
          have hRd := fun W => uRead_any s W
          rw [ho] at hRd
          obtain ⟨x, y, ⟨a, b, sm⟩, l, n⟩ := u
          unfold u5V at hpl
          dsimp only at hpl hin hout
          have hx4 : x % 4 < 4 := Nat.mod_lt _ (by decide)
          obtain ⟨xm, hxm⟩ : ∃ xm : Nat, xm = x % 4 := ⟨_, rfl⟩
          rw [← hxm] at hpl hin hout hx4
          have hpl := Lib.hid hpl
          have hRd := Lib.hid hRd
          clear hfit hno ho hxm
          go_wp2_with (first
          | ((with_reducible refine guardList ?_)
             refine wantList_store (by rfl) 34 _ _ rfl w1.heap.size 0 (by rfl) (secL s) (by rfl) _ (secL sec0) (secL s) (Blk.new w1 34 (secL sec0)) (by simp only [secL_length]; decide) (secL_one _) (infoSecL _) whole_sec ?_
             intro w2 hV k2 z2
             have hV2 := Lib.hid hV
             have hL2 := Lib.hid ((hL1.out.alloc (.cells (secL sec0).toArray 34)).over k2 (fun i hf e => by have := hL1.out.dev.lt i hf; omega) (fun b hb e => by have := (hL1.out.lt b hb).2; omega) (fun i hi e => by have := hL1.out.k.size; omega))
             clear k2 z2 hV)
          | ((with_reducible refine guardList ?_); refine wantList_load (by rfl) 34 _ rfl w1.heap.size 0 (by rfl) (secL s) _ (range_blk hV2.out) Try.underlying34 rfl (infoSecL _) ?_))
          refine (hRd.out _).mono ?_
          intro e w3 hR
          obtain ⟨rfl, hb3⟩ : e = .returned (.tuple #[.agg #[.int .u64 (x : Int), .int .u64 (y : Int), .int .i64 a, .int .u64 (b : Int), .int .u32 (sm : Int), .int .i64 l, .int .i64 n], .bool true]) ∧ _ := hR
          have hL3 := Lib.hid (hL2.out.below hb3)
          clear hb3
          go_wp2_with fail
          refine (hpl.out _).mono ?_
          rintro e w4 ⟨rfl, hb4⟩
          have hL4 := Lib.hid ((hL3.out.alloc (.cells #[.int .u64 (x : Int), .int .u64 (y : Int), .int .i64 a, .int .u64 (b : Int), .int .u32 (sm : Int), .int .i64 l, .int .i64 n] 27)).below hb4)
          have hU4 : Hid (Blk w4 w3.heap.size 27 (u5L ⟨x, y, ⟨a, b, sm⟩, l, n⟩)) := Lib.hid (blk_out (Blk.new w3 _ (u5L ⟨x, y, ⟨a, b, sm⟩, l, n⟩)) hb4)
          clear hb4
          by_cases hxk : xm = k
          · subst hxk
            have hsl := hin rfl
            clear hin hout
            have hq : ((xm : Int) == (xm : Int)) = true := by simp
            obtain ⟨c0, c1, c2, c3, c4, c5, c6⟩ := UAt.cells hU4.out
            have hlt4 := hU4.out.lt
            have hsz4 : w.heap.size ≤ w4.heap.size := hL4.out.k.size
            have hls := slots_length m xm
            go_wp2_with (at_builtin
                         refine wpList_pushN rfl _ _ 59 rfl w.heap.size 27 i0 _ 7 56 Try.underlying59 hi hz0 hz1 hz2 rfl (by decide) u3 _ _ w4 rfl hL4.out.own 1 #[.int .u64 (x : Int), .int .u64 (y : Int), .int .i64 a, .int .u64 (b : Int), .int .u32 (sm : Int), .int .i64 l, .int .i64 n] rfl rfl (u5L_one ⟨x, y, ⟨a, b, sm⟩, l, n⟩) (by omega) (by omega) hsz4 ?_
                         intro v' w5 ho5 hg5 hv5
                         have hL5 := Lib.hid (hL4.out.push ⟨x, y, ⟨a, b, sm⟩, l, n⟩ ho5 hg5)
                         clear ho5 hg5 hv5)
            go_roundw
            case rel => exact ⟨xm + 1, F1, by omega, by go_num, Lib.hid (by rw [hsl.out]; exact hL5.out)⟩
            case measure => simp [intOf] <;> omega
          · have hsl := hout hxk
            clear hin hout
            have hq : ((xm : Int) == (k : Int)) = false := by rw [nat_eq_int]; simp [hxk]
            clear hxk
            go_wp2
            go_roundw
            case rel => exact ⟨k + 1, F1, by omega, by go_num, Lib.hid (by rw [hsl.out]; exact hL4.out)⟩
            case measure => simp [intOf] <;> omega

      · have hsl := hno (by unfold DevM.slot; rw [hse.out]; simp [her])
        have hq : (er != 0) = true := by simpa using her
        clear hno her
        go_wp2_with (first
          | ((with_reducible refine guardList ?_)
             refine wantList_store (by rfl) 34 _ _ rfl w1.heap.size 0 (by rfl) (secL s) (by rfl) _ (secL sec0) (secL s) (Blk.new w1 34 (secL sec0)) (by simp only [secL_length]; decide) (secL_one _) (infoSecL _) whole_sec ?_
             intro w2 hV k2 z2
             have hV2 := Lib.hid hV
             have hL2 := Lib.hid ((hL1.out.alloc (.cells (secL sec0).toArray 34)).over k2 (fun i hf e => by have := hL1.out.dev.lt i hf; omega) (fun b hb e => by have := (hL1.out.lt b hb).2; omega) (fun i hi e => by have := hL1.out.k.size; omega))
             clear k2 z2 hV))
        go_roundw
        case rel => exact ⟨k + 1, F1, by omega, by go_num, Lib.hid (by rw [hsl.out]; exact hL2.out)⟩
        case measure => simp [intOf] <;> omega

    · obtain rfl : k = 4 := by omega
      clear hlt hk
      obtain ⟨xs, hxs⟩ : ∃ xs, xs = m.slots 4 := ⟨_, rfl⟩
      have hxl : xs.length ≤ 4 := by rw [hxs]; exact slots_length m 4
      have hperm : Hid (m.list.Perm xs) := Lib.hid (by rw [hxs]; exact lists_perm m 4)
      have hup := Lib.hid (lists_up m 4)
      rw [← hxs] at hL
      clear hxs
      obtain ⟨mt, hmt⟩ : ∃ mt, mt = m.ticks 4 := ⟨_, rfl⟩
      rw [← hmt] at hL
      have hmt := Lib.hid hmt
      rcases hL.out.own.2 with ⟨rfl, hn⟩ | ⟨g, cap, cur, rfl, hg0, hg1, hg2, hg3, hg4, hg5⟩
      · obtain rfl : xs = [] := List.eq_nil_of_length_eq_zero hn
        have hml : Hid (m.list = []) := Lib.hid hperm.out.eq_nil
        go_wp2_with fail
        refine (sort_none wr _).mono ?_
        rintro e w' ⟨rfl, rfl⟩
        go_wp2
        go_ret
        exact ⟨none, 0, Fk, by rw [hml.out]; rfl, by rw [← hmt.out]; exact hL.out.dev, hL.out.k, hL.out.g, ⟨by rw [hml.out]; exact Reads.nil _ _, fun a ha => by cases ha⟩, fun _ => rfl⟩
      · have hsort := sort_some wr w.heap.size g cap xs hL.out.own (by omega)
        have hsort := Lib.hid hsort
        have hml : Hid (m.list.length = xs.length) := Lib.hid hperm.out.length_eq
        clear hg0 hg1 hg2 hg3 hg4 hg5
        go_wp2_with fail
        refine hsort.out.mono ?_
        rintro e w' ⟨rfl, ys, hp, hrise, hrd, hkk⟩
        have hys : ys = m.list := up_eq hup.out hrise (hp.trans hperm.out.symm)
        have hlt := hL.out.lt g rfl
        have hap := hL.out.ap g rfl
        have hfin : IsDev w' d Fk mt ∧ Kept F w w' ∧ Grows w.heap.size F Fk ∧ ListAt w w' Fk (some ⟨g, 0, none⟩) m.list := by
          refine ⟨hL.out.dev.kept hkk (fun i hi e => hap (e ▸ hi)), hL.out.k.then hkk (fun i hi e => by omega), hL.out.g, ⟨by rw [← hys]; exact hrd, fun a ha => by cases ha; exact ⟨hlt.1, hap⟩⟩⟩
        have hfin := Lib.hid hfin
        clear hp hrise hrd hkk hys hlt hap
        go_wp2
        go_ret
        exact ⟨some ⟨g, 0, none⟩, cap, Fk, by rw [hml.out]; rfl, by rw [← hmt.out]; exact hfin.out.1, hfin.out.2.1, hfin.out.2.2.1, hfin.out.2.2.2, fun e => by cases e⟩
end Go.Proofs.Ytfblehdeoloijaa

/- A device's ring: Best. -/
namespace Go.Proofs.Ytfblehdeoloijaa
open Go.ChangeShapes Go.WideShapes Go.ChangeAt Go.RowKit
set_option linter.unusedVariables false
set_option maxRecDepth 20000

theorem last_split {l : List U5} (h : l ≠ []) : ∃ ys u, l = ys ++ [u] ∧ lastU l = some u := by
  refine ⟨l.dropLast, l.getLast h, (List.dropLast_concat_getLast h).symm, ?_⟩
  unfold lastU
  exact List.getLast?_eq_some_getLast h

/-- the last of a list of ubers, in a world -/
theorem last_range {w : World} {ao : Option Addr} {ys : List U5} {u : U5} (h : Reads w ao (rowsL u5L (ys ++ [u]))) :
    ∃ b off, ao = some ⟨b, off, none⟩ ∧ b < w.heap.size ∧ w.rangeAt b (off + ys.length * 7) (u5L u) := by
  obtain ⟨b, off, e, hb, hr⟩ := Reads.rangeRow u5L_length (by decide) h (k := ys.length) (by simp)
  exact ⟨b, off, e, hb, by simpa using hr⟩

set_option maxHeartbeats 4000000 in
theorem oBest {w : World} {d : Nat} {F : Nat → Prop} {m : DevM} (h : IsDev w d F m) :
    Calls Try.prog 9 #[.pointer (some ⟨d, 0, none⟩)] w fun e w' => e = .returned (.tuple #[.agg (u5L (m.best.getD u5z)).toArray, .bool m.best.isSome]) ∧ Turned w d F (m.ticks 4) w' := by
  have h1 := h.alloc (.cells #[.int .u64 0, .int .u64 0, .int .i64 0, .int .u64 0, .int .u32 0, .int .i64 0, .int .i64 0] 27)
  have hL := Lib.hid (oList h1)
  have hlt : Hid (∀ k, F k → k < w.heap.size) := Lib.hid h.lt
  have hz0 : Hid (Blk (w.alloc (.cells #[.int .u64 0, .int .u64 0, .int .i64 0, .int .u64 0, .int .u32 0, .int .i64 0, .int .i64 0] 27)) w.heap.size 27 (u5L u5z)) := Lib.hid (Blk.new w 27 (u5L u5z))
  clear h1
  go_enter Try.func9, Try.ntmps9
  go_wp2_with fail
  refine hL.out.mono ?_
  rintro e w1 ⟨ao, cap, F', rfl, hD, hk, hg, hA, hn⟩
  have hZ1 := Lib.hid (hz0.out.kept hk (fun hf => by have := hlt.out _ hf; omega))
  have hnF : Hid (¬ F' w.heap.size) := Lib.hid (hg.not (fun hf => by have := hlt.out _ hf; omega) hz0.out.lt)
  have hT : Hid (Turned w d F (m.ticks 4) w1) := Lib.hid (Turned.next ⟨F', hD, hk, hg⟩ (Kept.of_alloc F w _) (fun i hi => .inl hi))
  have hfin : Hid (∀ w2, Kept (· = w.heap.size) w1 w2 → Turned w d F (m.ticks 4) w2) := Lib.hid (fun w2 k => by
    refine ⟨F', hD.kept k (fun i hi e => hnF.out (e ▸ hi)), ?_, fun i hi => ?_⟩
    · refine ((Kept.of_alloc F w _).trans hk).then k (fun i hi e => by omega)
    · rcases hg i hi with e | e
      · exact .inl e
      · exact .inr (by simp at e; omega))
  have hA := Lib.hid hA
  clear hD hk hg hn
  obtain ⟨B, hB⟩ : ∃ B, B = m.best := ⟨_, rfl⟩
  have hB := Lib.hid hB
  obtain ⟨xs, hxs⟩ : ∃ xs, xs = m.list := ⟨_, rfl⟩
  have hB2 : Hid (B = lastU xs) := Lib.hid (by rw [hB.out, hxs]; rfl)
  have hll : xs.length ≤ 4 := by rw [hxs]; exact lists_length m 4
  rw [← hxs] at hA ⊢
  clear hxs
  by_cases hne : xs = []
  · subst hne
    obtain rfl : B = none := hB2.out
    clear hA
    go_wp2_with ((with_reducible refine guardList ?_)
                 refine wantList_store (by rfl) 27 _ _ rfl w.heap.size 0 (by rfl) (u5L u5z) (by rfl) _ (u5L u5z) (u5L u5z) hZ1.out (Nat.le_of_eq rfl) (u5L_one _) (infoUberL _) whole_u ?_
                 intro w2 hZ2 k2 z2
                 have hZ2 := Lib.hid hZ2
                 have T2 := Lib.hid (hfin.out w2 k2)
                 clear k2 z2)
    refine bodyPost_ret (results_row_tmp rfl (rowU hZ2.out)) rfl ⟨by rw [← hB.out]; rfl, T2.out⟩
  · obtain ⟨ys, u, rfl, hlast⟩ := last_split hne
    obtain rfl : B = some u := by rw [hB2.out]; exact hlast
    obtain ⟨b, off, rfl, hlb, hr⟩ := last_range hA.out.1
    have hr := Lib.hid hr
    rw [List.length_append, List.length_singleton] at hll
    clear hlast hne hB2 hA
    rw [List.length_append, List.length_singleton]
    go_wp2_with (first
      | ((with_reducible refine guardList ?_); refine wantList_load (by rfl) 27 _ rfl b (off + ys.length * 7) (by rfl) (u5L u) _ hr.out Try.underlying27 rfl (infoUberL _) ?_)
      | ((with_reducible refine guardList ?_)
         refine wantList_store (by rfl) 27 _ _ rfl w.heap.size 0 (by rfl) (u5L u) (by rfl) _ (u5L u5z) (u5L u) hZ1.out (Nat.le_of_eq rfl) (u5L_one _) (infoUberL _) whole_u ?_
         intro w2 hZ2 k2 z2
         have hZ2 := Lib.hid hZ2
         have T2 := Lib.hid (hfin.out w2 k2)
         clear k2 z2))
    refine bodyPost_ret (results_row_tmp rfl (rowU hZ2.out)) rfl ⟨by rw [← hB.out]; rfl, T2.out⟩
end Go.Proofs.Ytfblehdeoloijaa

/- Ubers and rings as plain data: there and back; what a commit and a crash leave, and what then counts. -/
namespace Go.Proofs.Ytfblehdeoloijaa
open Go.RowKit
set_option linter.unusedVariables false
set_option maxRecDepth 20000

theorem cut_sec (u : U5) (l n : Nat) (pre mid post : List UInt8) (h : u.sec.1 = pre ++ (mid ++ post)) (hl : pre.length = l) (hn : mid.length = n) : cutS u.sec l n = mid := by
  unfold cutS
  rw [h, ← hl, List.drop_left, ← hn, List.take_left]
theorem sec_list (u : U5) : u.sec.1 = markB ++ (u.ab ++ (u.p.bytes ++ (u.nb ++ (zerosB 80 ++ leB 4 u.sumN)))) := by
  unfold U5.sec U5.body; simp
theorem u5Of_sec {u : U5} (hf : u.Fit) (hr : u.rightB = true) : u5Of u.sec = u := by
  obtain ⟨x1, x2, y1, y2, hp, _, l1, l2, n1, n2⟩ := right_parts hr
  have c1 : cutS u.sec 4 16 = u.ab := cut_sec u 4 16 markB u.ab _ (sec_list u) rfl u.ab_length
  have c2 : cutS u.sec 20 16 = u.p.bytes := cut_sec u 20 16 (markB ++ u.ab) u.p.bytes (u.nb ++ (zerosB 80 ++ leB 4 u.sumN)) (by rw [sec_list]; simp) (by simp [markB, U5.ab_length]) (P3.bytes_length _)
  have c3 : cutS u.sec 36 8 = u.nb := cut_sec u 36 8 (markB ++ (u.ab ++ u.p.bytes)) u.nb (zerosB 80 ++ leB 4 u.sumN) (by rw [sec_list]; simp) (by simp [markB, U5.ab_length, P3.bytes_length]) u.nb_length
  unfold u5Of
  rw [c1, c2, c3]
  have t8 : u.ab.take 8 = leB 8 u.x := by unfold U5.ab; exact List.take_left' (leB_length _ _)
  have d8 : u.ab.drop 8 = leB 8 u.y := by unfold U5.ab; exact List.drop_left' (leB_length _ _)
  have t4 : u.nb.take 4 = leB 4 u.l.toNat := by unfold U5.nb; exact List.take_left' (leB_length _ _)
  have d4 : u.nb.drop 4 = leB 4 u.n.toNat := by unfold U5.nb; exact List.drop_left' (leB_length _ _)
  rw [t8, d8, t4, d4, valB_leB 8 u.x (by omega), valB_leB 8 u.y (by omega), valB_leB 4 u.l.toNat (by omega), valB_leB 4 u.n.toNat (by omega), p3Of_bytes hf.2.2.1 hp]
  exact U5.ext' rfl rfl rfl (by simp; omega) (by simp; omega)
theorem u5O_sec {u : U5} (hf : u.Fit) (hr : u.rightB = true) : u5O u.sec = some u := by
  unfold u5O
  rw [u5Of_sec hf hr, if_pos ⟨hr, rfl⟩]
theorem u5O_some {s : Sec} {u : U5} (h : u5O s = some u) : u.rightB = true ∧ u.sec = s := by
  unfold u5O at h
  split at h
  · rename_i hc; cases h; exact hc
  · cases h
theorem sec_inj {u v : U5} (hu : u.Fit) (hv : v.Fit) (ru : u.rightB = true) (rv : v.rightB = true) (e : u.sec = v.sec) : u = v := by
  have h1 := u5O_sec hu ru
  rw [e, u5O_sec hv rv] at h1
  exact (Option.some.inj h1).symm
theorem valB_zeros (n : Nat) : valB (List.replicate n 0) = 0 := by
  induction n with
  | zero => rfl
  | succ n ih => rw [List.replicate_succ]; unfold valB; rw [ih]; rfl
theorem u5O_zero : u5O sec0 = none := by
  unfold u5O
  rw [if_neg]
  rintro ⟨h, _⟩
  have h1 := (right_parts h).1
  have : (u5Of sec0).x = 0 := by
    show valB ((cutS sec0 4 16).take 8) = 0
    have : (cutS sec0 4 16).take 8 = List.replicate 8 0 := by unfold cutS sec0; simp
    rw [this, valB_zeros]
  omega

/-! ### Rings -/
/-- powered, and nothing pending -/
structure Calm (m : DevM) (n : Nat) : Prop where
  len : m.stable.length = n
  pend : m.pending = []
  dead : m.dead = false
theorem Calm.now {m : DevM} {n : Nat} (h : Calm m n) : m.now = m.stable := by unfold DevM.now; rw [h.pend]; rfl
theorem Calm.read {m : DevM} {n : Nat} (h : Calm m n) {i : Nat} (hi : i < n) : m.read (i : Int) = (m.stable.getD i sec0, 0) := by
  unfold DevM.read DevM.has
  rw [h.len, h.dead, h.now]
  have h1 : decide ((0 : Int) ≤ (i : Int)) = true := by simp
  have h2 : decide ((i : Int) < (n : Int)) = true := by simp; omega
  rw [h1, h2]
  simp
theorem Calm.slot {m : DevM} {n : Nat} (h : Calm m n) {i : Nat} (hi : i < n) : m.slot i = match u5O (m.stable.getD i sec0) with | some u => if u.x % 4 = i then some u else none | none => none := by
  unfold DevM.slot
  rw [h.read hi]
  rfl

theorem last_iff {l : List U5} (h : UpU l) (u : U5) : lastU l = some u ↔ u ∈ l ∧ ∀ v ∈ l, v = u ∨ v.x < u.x := by
  constructor
  · intro e
    by_cases hne : l = []
    · subst hne; cases e
    · obtain ⟨ys, z, rfl, e'⟩ := last_split hne
      rw [e] at e'
      cases e'
      refine ⟨by simp, fun v hv => ?_⟩
      unfold UpU at h
      rw [List.pairwise_append] at h
      rcases List.mem_append.1 hv with hv | hv
      · exact .inr (h.2.2 v hv u (by simp))
      · exact .inl (by simpa using hv)
  · rintro ⟨hm, hv⟩
    obtain ⟨ys, z, rfl, e'⟩ := last_split (List.ne_nil_of_mem hm)
    rw [e']
    congr 1
    rcases hv z (by simp) with e | e
    · exact e
    · unfold UpU at h
      rw [List.pairwise_append] at h
      rcases List.mem_append.1 hm with hm | hm
      · have := h.2.2 u hm z (by simp); omega
      · have : u = z := by simpa using hm
        exact this.symm

/-- two rings of which one has one sector more -/
theorem best_set {m m' : DevM} {n : Nat} (h : Calm m n) (h' : Calm m' n) (hn : 4 ≤ n) {u : U5} (hf : u.Fit) (hr : u.rightB = true) (hs : m'.stable = m.stable.set (u.x % 4) u.sec) (hup : ∀ v ∈ m.list, v.x < u.x) : m'.best = some u := by
  have hx : u.x % 4 < 4 := Nat.mod_lt _ (by decide)
  have hslot : ∀ i, i < 4 → m'.slot i = if i = u.x % 4 then some u else m.slot i := fun i hi => by
    rw [h'.slot (by omega), h.slot (by omega), hs]
    by_cases e : i = u.x % 4
    · subst e
      rw [if_pos rfl, List.getD_eq_getElem?_getD, List.getElem?_set_self (by rw [h.len]; omega), Option.getD_some, u5O_sec hf hr]
      simp
    · rw [if_neg e, List.getD_eq_getElem?_getD, List.getElem?_set_ne (by omega), ← List.getD_eq_getElem?_getD]
  refine (last_iff (lists_up m' 4) u).2 ⟨list_mem.2 (by rw [hslot _ hx, if_pos rfl]), fun v hv => ?_⟩
  have h1 := list_mem.1 hv
  rw [hslot _ (Nat.mod_lt _ (by decide))] at h1
  by_cases e : v.x % 4 = u.x % 4
  · rw [if_pos e] at h1; exact .inl (Option.some.inj h1).symm
  · rw [if_neg e] at h1; exact .inr (hup v (list_mem.2 h1))
theorem list_same {m m' : DevM} {n : Nat} (h : Calm m n) (h' : Calm m' n) (hn : 4 ≤ n) (hs : m'.stable = m.stable) : m'.list = m.list := by
  have hslot : ∀ i, i < 4 → m'.slot i = m.slot i := fun i hi => by rw [h'.slot (by omega), h.slot (by omega), hs]
  have : ∀ k, k ≤ 4 → m'.lists k = m.lists k := fun k => by
    induction k with
    | zero => intro _; rfl
    | succ k ih => intro hk; unfold DevM.lists; rw [hslot k (by omega), ih (by omega)]
  exact this 4 (Nat.le_refl _)
theorem best_le {m : DevM} {u : U5} (h : m.best = some u) : ∀ v ∈ m.list, v.x ≤ u.x := fun v hv => by
  rcases ((last_iff (lists_up m 4) u).1 h).2 v hv with e | e
  · rw [e]; exact Nat.le_refl _
  · omega

theorem Calm.tick {m : DevM} {n : Nat} (h : Calm m n) : Calm m.tick n := ⟨h.len, h.pend, h.dead⟩
theorem crash_calm {m : DevM} {n : Nat} (keep : List Bool) (h : m.stable.length = n) : Calm (m.crash keep) n :=
  ⟨by show (putAll m.stable _).length = n; rw [putAll_length]; exact h, rfl, rfl⟩
theorem crash_still {m : DevM} (keep : List Bool) (h : m.pending = []) : (m.crash keep).stable = m.stable := by
  show putAll m.stable (DevM.kept _ m.pending) = _
  rw [h]; rfl
theorem crash_two {m : DevM} (keep : List Bool) {i : Nat} {s : Sec} (h : m.pending = [(i, s)]) : (m.crash keep).stable = m.stable ∨ (m.crash keep).stable = m.stable.set i s := by
  show putAll m.stable (DevM.kept _ m.pending) = _ ∨ putAll m.stable (DevM.kept _ m.pending) = _
  rw [h]
  unfold DevM.kept
  cases hk : keep.getD 0 false with
  | false => left; rw [List.getD_eq_getElem?_getD] at hk; simp [List.zipIdx, hk, putAll, List.filter]
  | true => right; rw [List.getD_eq_getElem?_getD] at hk; simp [List.zipIdx, hk, putAll, List.filter]
theorem flush_calm {m : DevM} {n : Nat} (h : Calm m n) : (m.flush.1.stable = m.stable ∧ m.flush.1.pending = []) ∧ (m.flush.2 = 0 ∧ Calm m.flush.1 n ∨ m.flush.2 = 42) := by
  unfold DevM.flush
  cases hl : m.lasts with
  | true =>
    rw [if_pos rfl]
    have e1 : m.tick.spend.pending = [] := by rw [DevM.spend_pending]; exact h.pend
    have e2 : m.tick.spend.stable = m.stable := by rw [DevM.spend_stable]; rfl
    have e3 : m.tick.spend.dead = false := by
      unfold DevM.spend
      rw [show m.tick.lasts = true from hl, if_pos rfl]
      exact h.dead
    have e4 : (m.tick.spend.settle fun _ => true).stable = m.stable := by show putAll _ (DevM.kept _ m.tick.spend.pending) = _; rw [e1, e2]; rfl
    exact ⟨⟨e4, rfl⟩, .inl ⟨rfl, ⟨by rw [e4]; exact h.len, rfl, e3⟩⟩⟩
  | false =>
    rw [if_neg (by decide)]
    exact ⟨⟨by rw [DevM.spend_stable]; rfl, by rw [DevM.spend_pending]; exact h.pend⟩, .inr rfl⟩

/-- what a commit and a crash leave -/
theorem commit_crash {m : DevM} {n : Nat} (h : Calm m n) (hn : 4 ≤ n) {u : U5} (hr : u.rightB = true) (keep : List Bool) :
    Calm ((m.commit u).1.crash keep) n ∧ (((m.commit u).1.crash keep).stable = m.stable ∧ (m.commit u).2 ≠ 0 ∨ ((m.commit u).1.crash keep).stable = m.stable.set (u.x % 4) u.sec) := by
  have hx : u.x % 4 < 4 := Nat.mod_lt _ (by decide)
  obtain ⟨⟨f1, f2⟩, hf⟩ := flush_calm h
  unfold DevM.commit
  rw [if_pos hr]
  rcases hf with ⟨e, hc⟩ | e
  · rw [if_pos e]
    generalize m.flush.1 = m1 at *
    have hw : m1.write ((u.x % 4 : Nat) : Int) u.sec = if m1.lasts then ({ m1.tick.spend with pending := m1.pending ++ [(u.x % 4, u.sec)] }, 0) else (m1.tick.spend, 42) := by
      unfold DevM.write
      have : m1.has ((u.x % 4 : Nat) : Int) = true := by
        unfold DevM.has
        rw [hc.len]
        simp
        omega
      rw [this, if_pos rfl]
      rfl
    rw [hw]
    cases hl : m1.lasts with
    | false =>
      simp only [Bool.false_eq_true, if_false]
      rw [if_neg (by decide)]
      exact ⟨crash_calm keep (by rw [DevM.spend_stable]; exact hc.len), .inl ⟨by rw [crash_still keep (by rw [DevM.spend_pending]; exact f2), DevM.spend_stable]; exact f1, by simp⟩⟩
    | true =>
      simp only [if_true]
      have e1 : m1.tick.spend.stable = m.stable := by rw [DevM.spend_stable]; exact f1
      have e2 : m1.pending ++ [(u.x % 4, u.sec)] = [(u.x % 4, u.sec)] := by rw [hc.pend]; rfl
      rw [e2]
      generalize m1.tick.spend = m2 at *
      unfold DevM.flush
      split
      · have e3 : ({ m2 with pending := [(u.x % 4, u.sec)] } : DevM).tick.spend.pending = [(u.x % 4, u.sec)] := by rw [DevM.spend_pending]; rfl
        have e4 : ({ m2 with pending := [(u.x % 4, u.sec)] } : DevM).tick.spend.stable = m.stable := by rw [DevM.spend_stable]; exact e1
        have e5 : (({ m2 with pending := [(u.x % 4, u.sec)] } : DevM).tick.spend.settle fun _ => true).stable = m.stable.set (u.x % 4) u.sec := by
          show putAll _ (DevM.kept _ _) = _
          rw [e3, e4]; rfl
        refine ⟨crash_calm keep (by rw [e5, List.length_set]; exact h.len), .inr ?_⟩
        rw [crash_still keep (by rfl), e5]
      · have e3 : ({ m2 with pending := [(u.x % 4, u.sec)] } : DevM).tick.spend.pending = [(u.x % 4, u.sec)] := by rw [DevM.spend_pending]; rfl
        have e4 : ({ m2 with pending := [(u.x % 4, u.sec)] } : DevM).tick.spend.stable = m.stable := by rw [DevM.spend_stable]; exact e1
        refine ⟨crash_calm keep (by rw [e4]; exact h.len), ?_⟩
        rcases crash_two keep e3 with e5 | e5
        · left; rw [e4] at e5; exact ⟨e5, by simp⟩
        · right; rw [e4] at e5; exact e5
  · rw [if_neg (by rw [e]; decide)]
    exact ⟨crash_calm keep (by rw [f1]; exact h.len), .inl ⟨by rw [crash_still keep f2]; exact f1, by rw [e]; decide⟩⟩
/-- of a device whose power lasts -/
theorem commit_lasts {m : DevM} {n : Nat} (h : Calm m n) (hn : 4 ≤ n) (hl : m.left = -1) {u : U5} (hr : u.rightB = true) :
    Calm (m.commit u).1 n ∧ (m.commit u).1.left = -1 ∧ (m.commit u).2 = 0 ∧ (m.commit u).1.stable = m.stable.set (u.x % 4) u.sec := by
  have hx : u.x % 4 < 4 := Nat.mod_lt _ (by decide)
  have hlt : m.lasts = true := by unfold DevM.lasts; rw [h.dead, hl]; rfl
  obtain ⟨st, pe, ops, left, dead⟩ := m
  obtain ⟨h1, h2, h3⟩ := h
  dsimp only at h1 h2 h3 hl
  subst h2 h3 hl
  have hhas : ∀ o, DevM.has ⟨st, [], o, -1, false⟩ ((u.x % 4 : Nat) : Int) = true := fun o => by
    unfold DevM.has
    dsimp only
    rw [h1]
    simp
    omega
  have hfl : ∀ o (p : List (Nat × Sec)), DevM.flush ⟨st, p, o, -1, false⟩ = (⟨putAll st (DevM.kept (fun _ => true) p), [], min (o + 1) 4611686018427387903, -1, false⟩, 0) := fun o p => rfl
  have hwr : ∀ o, DevM.write ⟨st, [], o, -1, false⟩ ((u.x % 4 : Nat) : Int) u.sec = (⟨st, [(u.x % 4, u.sec)], min (o + 1) 4611686018427387903, -1, false⟩, 0) := fun o => by
    unfold DevM.write
    rw [hhas, if_pos rfl]
    rfl
  have hk : DevM.kept (fun _ => true) ([] : List (Nat × Sec)) = [] := rfl
  have hk1 : DevM.kept (fun _ => true) [(u.x % 4, u.sec)] = [(u.x % 4, u.sec)] := rfl
  unfold DevM.commit
  rw [if_pos hr, hfl, if_pos rfl]
  dsimp only
  rw [hk, putAll_nil, hwr, if_pos rfl]
  dsimp only
  rw [hfl, hk1]
  exact ⟨⟨by show (st.set _ _).length = n; rw [List.length_set]; exact h1, rfl, rfl⟩, rfl, rfl, rfl⟩
end Go.Proofs.Ytfblehdeoloijaa

/- The chapter's example holds; when two ubers are one; a device of a law's own. -/
namespace Go.Proofs.Ytfblehdeoloijaa
open Go.ChangeShapes Go.WideShapes Go.ChangeAt Go.RowKit
set_option linter.unusedVariables false
set_option maxRecDepth 20000

def U5.eqB (u v : U5) : Bool := decide (u.x = v.x) && (decide (u.y = v.y) && (P3.eqB u.p v.p && (decide (u.l = v.l) && decide (u.n = v.n))))
theorem U5.eqB_iff {u v : U5} : u.eqB v = true ↔ u = v := by
  unfold U5.eqB
  simp only [Bool.and_eq_true, decide_eq_true_iff, P3.eqB_iff]
  exact ⟨fun h => U5.ext' h.1 h.2.1 h.2.2.1 h.2.2.2.1 h.2.2.2.2, fun h => by subst h; simp⟩
theorem U5.eqB_self (u : U5) : u.eqB u = true := U5.eqB_iff.2 rfl
theorem U5.eqB_ne {u v : U5} (h : u ≠ v) : u.eqB v = false := by
  cases e : u.eqB v with
  | false => rfl
  | true => exact absurd (U5.eqB_iff.1 e) h
set_option maxHeartbeats 2000000 in
theorem eqUber (w : World) (u v : U5) : (Op.equalIn 10000 27 (.agg #[.int .u64 (u.x : Int), .int .u64 (u.y : Int), .int .i64 u.p.a, .int .u64 (u.p.b : Int), .int .u32 (u.p.s : Int), .int .i64 u.l, .int .i64 u.n]) (.agg #[.int .u64 (v.x : Int), .int .u64 (v.y : Int), .int .i64 v.p.a, .int .u64 (v.p.b : Int), .int .u32 (v.p.s : Int), .int .i64 v.l, .int .i64 v.n])).run Try.prog w = .ok (u.eqB v) w := by
  go_simp
  unfold U5.eqB P3.eqB
  by_cases h1 : u.x = v.x
  · by_cases h2 : u.y = v.y
    · by_cases h3 : u.p.a = v.p.a
      · by_cases h4 : u.p.b = v.p.b
        · by_cases h5 : u.p.s = v.p.s
          · by_cases h6 : u.l = v.l
            · by_cases h7 : u.n = v.n <;> simp [h1, h2, h3, h4, h5, h6, h7]
            · simp [h1, h2, h3, h4, h5, h6]
          · simp [h1, h2, h3, h4, h5, Int.natCast_inj]
        · simp [h1, h2, h3, h4, Int.natCast_inj]
      · simp [h1, h2, h3]
    · simp [h1, h2, Int.natCast_inj]
  · simp [h1, Int.natCast_inj]

/-- a device of a call's own -/
structure D0 (w0 w : World) (d : Nat) (F : Nat → Prop) (m : DevM) : Prop where
  dev : IsDev w d F m
  low : ∀ k, F k → w0.heap.size ≤ k
  q : Below w0.heap.size w0 w
namespace D0
variable {w0 w w' : World} {d : Nat} {F F' : Nat → Prop} {m m' : DevM}
theorem turn (h : D0 w0 w d F m) (T : Turned w d F m' w') : ∃ F', D0 w0 w' d F' m' ∧ Kept F w w' ∧ Grows w.heap.size F F' := by
  obtain ⟨F', h1, h2, h3⟩ := T
  exact ⟨F', ⟨h1, h3.low h.low h.q.size, Kept.out h.q h2 (fun i _ hf => h.low i hf) h.q.size⟩, h2, h3⟩
theorem below (h : D0 w0 w d F m) (hb : Below w.heap.size w w') : D0 w0 w' d F m := ⟨h.dev.below hb, h.low, h.q.trans (hb.mono h.q.size)⟩
theorem alloc (h : D0 w0 w d F m) (o : Obj) : D0 w0 (w.alloc o) d F m := h.below ((Below.refl _ _).alloc (Nat.le_refl _) o)
theorem drew (h : D0 w0 w d F m) : D0 w0 w.drew d F m := ⟨h.dev.drew, h.low, h.q.drew⟩
theorem later {w1 : World} (h : D0 w1 w d F m) (hb : Below w0.heap.size w0 w1) : D0 w0 w d F m := ⟨h.dev, fun k hk => Nat.le_trans hb.size (h.low k hk), hb.trans (h.q.mono hb.size)⟩
theorem over {G : Nat → Prop} (h : D0 w0 w d F m) (k : Kept G w w') (h1 : ∀ i, F i → ¬ G i) (h2 : ∀ i, i < w0.heap.size → ¬ G i) : D0 w0 w' d F m :=
  ⟨h.dev.kept k h1, h.low, Kept.out h.q k (fun i _ hg => by
    by_cases hi : i < w0.heap.size
    · exact absurd hg (h2 i hi)
    · omega) h.q.size⟩
theorem fits (h : D0 w0 w d F m) : m.Fits := h.dev.fits
end D0

theorem New_D0 (n : Int) (hn : I64 n) (w : World) : Calls Try.prog 10 #[.int .i64 n] w fun e w' => ∃ d F, e = .returned (.pointer (some ⟨d, 0, none⟩)) ∧ D0 w w' d F (DevM.fresh (DevM.newLen n)) := by
  refine (New_any n hn w).mono ?_
  rintro e w' ⟨d, F, rfl, h1, h2, h3⟩
  exact ⟨d, F, rfl, h1, h2, h3⟩
theorem fresh_calm (n : Nat) : Calm (DevM.fresh n) n := ⟨List.length_replicate .., rfl, rfl⟩
theorem smallU_fit (t : Nat) (h : t < 1000) : (smallU t).Fit := by
  unfold smallU U5.Fit P3.Fit I64
  refine ⟨?_, ?_, ⟨?_, ?_, ?_⟩, ?_, ?_⟩ <;> dsimp only <;> omega
theorem smallU_right (t : Nat) (h : 1 ≤ t ∧ t < 1000) : (smallU t).rightB = true := by
  unfold smallU U5.rightB stampB P3.rightB P3.holeB
  simp
  omega
/-- the example's device -/
def mEx1 : DevM := ((DevM.fresh 4).commit (smallU 1)).1
def mEx2 : DevM := (mEx1.commit (smallU 2)).1
theorem ex1 : Calm mEx1 4 ∧ mEx1.left = -1 ∧ ((DevM.fresh 4).commit (smallU 1)).2 = 0 ∧ mEx1.stable = (List.replicate 4 sec0).set 1 (smallU 1).sec := commit_lasts (fresh_calm 4) (by decide) rfl (smallU_right 1 (by decide))
theorem ex2 : Calm mEx2 4 ∧ mEx2.left = -1 ∧ (mEx1.commit (smallU 2)).2 = 0 ∧ mEx2.stable = mEx1.stable.set 2 (smallU 2).sec := commit_lasts ex1.1 (by decide) ex1.2.1 (smallU_right 2 (by decide))
theorem ex_list : mEx2.list = [smallU 1, smallU 2] := by
  have hs : mEx2.stable = ((List.replicate 4 sec0).set 1 (smallU 1).sec).set 2 (smallU 2).sec := by rw [ex2.2.2.2, ex1.2.2.2]
  have h0 : mEx2.slot 0 = none := by rw [ex2.1.slot (by decide), hs]; simp [List.replicate, u5O_zero]
  have h1 : mEx2.slot 1 = some (smallU 1) := by rw [ex2.1.slot (by decide), hs]; simp [List.replicate, u5O_sec (smallU_fit 1 (by decide)) (smallU_right 1 (by decide))]; rfl
  have h2 : mEx2.slot 2 = some (smallU 2) := by rw [ex2.1.slot (by decide), hs]; simp [List.replicate, u5O_sec (smallU_fit 2 (by decide)) (smallU_right 2 (by decide))]; rfl
  have h3 : mEx2.slot 3 = none := by rw [ex2.1.slot (by decide), hs]; simp [List.replicate, u5O_zero]
  unfold DevM.list
  simp only [DevM.lists, h0, h1, h2, h3]
  rfl
theorem ex_best : mEx2.best = some (smallU 2) := by unfold DevM.best; rw [ex_list]; rfl

theorem fresh_slot (n i : Nat) : (DevM.fresh n).slot i = none := by
  by_cases h : i < n
  · rw [(fresh_calm n).slot h]
    have : (DevM.fresh n).stable.getD i sec0 = sec0 := by
      show (List.replicate n sec0).getD i sec0 = sec0
      rw [List.getD_eq_getElem?_getD, List.getElem?_replicate]
      split <;> rfl
    rw [this, u5O_zero]
  · unfold DevM.slot DevM.read DevM.has
    have h1 : decide ((i : Int) < ((DevM.fresh n).stable.length : Int)) = false := by
      rw [(fresh_calm n).len]; simp; omega
    rw [h1]
    simp
theorem fresh_lists (n k : Nat) : (DevM.fresh n).lists k = [] := by
  induction k with
  | zero => rfl
  | succ k ih => unfold DevM.lists; rw [fresh_slot, ih]
theorem fresh_list (n : Nat) : (DevM.fresh n).list = [] := fresh_lists n 4
theorem fresh_best (n : Nat) : (DevM.fresh n).best = none := by unfold DevM.best; rw [fresh_list]; rfl

theorem small_1 (w : World) : Calls Try.prog 30 #[.int .u64 1] w fun e w' => e = .returned (.agg #[.int .u64 1, .int .u64 1, .int .i64 9, .int .u64 1, .int .u32 0, .int .i64 1, .int .i64 64]) ∧ Below w.heap.size w w' := small_any 1 w (by decide)
theorem small_2 (w : World) : Calls Try.prog 30 #[.int .u64 2] w fun e w' => e = .returned (.agg #[.int .u64 2, .int .u64 1, .int .i64 9, .int .u64 1, .int .u32 0, .int .i64 1, .int .i64 64]) ∧ Below w.heap.size w w' := small_any 2 w (by decide)
theorem fresh_pend (n : Nat) : (DevM.fresh n).pending = [] := rfl

set_option maxHeartbeats 4000000 in
theorem uberAlive_any (w : World) : Calls Try.prog 11 #[] w fun e w' => e = .returned (.bool true) ∧ Below w.heap.size w w' := by
  have c1 : ∀ (W : World) (d : Nat) (F : Nat → Prop), IsDev W d F (DevM.fresh 4) → Calls Try.prog 21 #[.pointer (some ⟨d, 0, none⟩), .agg #[.int .u64 1, .int .u64 1, .int .i64 9, .int .u64 1, .int .u32 0, .int .i64 1, .int .i64 64]] W fun e w' => e = .returned (.int .i64 0) ∧ Turned W d F mEx1 w' := fun W d F h => by
    have := oCommit h (by show (0 : Nat) ≤ _; omega) (smallU 1) (smallU_fit 1 (by decide))
    rw [ex1.2.2.1] at this
    exact this
  have c2 : ∀ (W : World) (d : Nat) (F : Nat → Prop), IsDev W d F mEx1 → Calls Try.prog 21 #[.pointer (some ⟨d, 0, none⟩), .agg #[.int .u64 2, .int .u64 1, .int .i64 9, .int .u64 1, .int .u32 0, .int .i64 1, .int .i64 64]] W fun e w' => e = .returned (.int .i64 0) ∧ Turned W d F mEx2 w' := fun W d F h => by
    have := oCommit h (by rw [ex1.1.pend]; show (0 : Nat) ≤ _; omega) (smallU 2) (smallU_fit 2 (by decide))
    rw [ex2.2.2.1] at this
    exact this
  have c3 : ∀ (W : World) (d : Nat) (F : Nat → Prop), IsDev W d F mEx2 → Calls Try.prog 9 #[.pointer (some ⟨d, 0, none⟩)] W fun e w' => e = .returned (.tuple #[.agg #[.int .u64 2, .int .u64 1, .int .i64 9, .int .u64 1, .int .u32 0, .int .i64 1, .int .i64 64], .bool true]) ∧ Turned W d F (mEx2.ticks 4) w' := fun W d F h => by
    have := oBest h
    rw [ex_best] at this
    exact this
  have c4 : ∀ (W : World) (d : Nat) (F : Nat → Prop), IsDev W d F (mEx2.ticks 4) → Calls Try.prog 25 #[.pointer (some ⟨d, 0, none⟩)] W fun e w' => ∃ ao cap F', e = .returned (.slice ao 2 cap) ∧ IsDev w' d F' ((mEx2.ticks 4).ticks 4) ∧ Kept F W w' ∧ Grows W.heap.size F F' ∧ Reads w' ao (rowsL u5L [smallU 1, smallU 2]) := fun W d F h => by
    have := oList h
    rw [list_ticks, ex_list] at this
    refine this.mono ?_
    rintro e w' ⟨ao, cap, F', rfl, h1, h2, h3, h4, h5⟩
    exact ⟨ao, cap, F', rfl, h1, h2, h3, h4.1⟩
  have hpend : ((mEx2.ticks 4).ticks 4).pending = [] := by show mEx2.pending = []; exact ex2.1.pend
  have c1 := Lib.hid c1
  have c2 := Lib.hid c2
  have c3 := Lib.hid c3
  have c4 := Lib.hid c4
  have hpend := Lib.hid hpend
  go_enter Try.func11, Try.ntmps11
  go_wp2_with fail
  refine (New_D0 4 (by unfold I64; omega) w).mono ?_
  rintro e w1 ⟨d, F1, rfl, h1⟩
  have h1 : Hid (D0 w w1 d F1 (DevM.fresh 4)) := Lib.hid h1
  go_wp2_with fail
  refine (small_1 _).mono ?_
  rintro e w2 ⟨rfl, hb⟩
  have h2 := Lib.hid (h1.out.below hb)
  clear hb
  go_wp2_with fail
  refine (c1.out _ _ _ h2.out.dev).mono ?_
  rintro e w3 ⟨rfl, T⟩
  obtain ⟨F3, h3, _, _⟩ := h2.out.turn T
  have h3 := Lib.hid h3
  clear T
  go_wp2_with fail
  refine (small_2 _).mono ?_
  rintro e w4 ⟨rfl, hb⟩
  have h4 := Lib.hid (h3.out.below hb)
  clear hb
  go_wp2_with fail
  refine (c2.out _ _ _ h4.out.dev).mono ?_
  rintro e w5 ⟨rfl, T⟩
  obtain ⟨F5, h5, _, _⟩ := h4.out.turn T
  have h5 := Lib.hid h5
  clear T
  go_wp2_with fail
  refine (c3.out _ _ _ h5.out.dev).mono ?_
  rintro e w6 ⟨rfl, T⟩
  obtain ⟨F6, h6, _, _⟩ := h5.out.turn T
  clear T
  have nF : Hid (¬ F6 w6.heap.size) := Lib.hid (fun hf => by have := h6.dev.lt _ hf; omega)
  have hU6 := Lib.hid (Blk.new w6 27 (u5L (smallU 2)))
  have h6 := Lib.hid (h6.alloc (.cells (u5L (smallU 2)).toArray 27))
  go_wp2_with fail
  refine (c4.out _ _ _ h6.out.dev).mono ?_
  rintro e w7 ⟨ao, cap, F7, rfl, h7, k7, g7, r7⟩
  have hU7 := Lib.hid (hU6.out.kept k7 nF.out)
  have h7 : Hid (D0 w w7 d F7 ((mEx2.ticks 4).ticks 4)) := Lib.hid ⟨h7, g7.low h6.out.low h6.out.q.size, Kept.out h6.out.q k7 (fun i _ hf => h6.out.low i hf) h6.out.q.size⟩
  clear k7 g7
  obtain ⟨b, off, rfl, hlb, hr⟩ := Reads.rangeRow u5L_length (by decide) r7 (k := 0) (by simp)
  have hlt7 := hU7.out.lt
  obtain ⟨a0, a1, a2, a3, a4, a5, a6⟩ := UAt.cells (show Blk w7 w6.heap.size 27 (u5L ⟨2, 1, ⟨9, 1, 0⟩, 1, 64⟩) from hU7.out)
  have b0 : w7.cell? ⟨b, off, none⟩ = some (.int .u64 1) := by simpa [u5L, smallU] using hr 0 _ rfl
  have b1 : w7.cell? ⟨b, off + 1, none⟩ = some (.int .u64 1) := by simpa [u5L, smallU] using hr 1 _ rfl
  have b2 : w7.cell? ⟨b, off + 2, none⟩ = some (.int .i64 9) := by simpa [u5L, smallU] using hr 2 _ rfl
  have b3 : w7.cell? ⟨b, off + 3, none⟩ = some (.int .u64 1) := by simpa [u5L, smallU] using hr 3 _ rfl
  have b4 : w7.cell? ⟨b, off + 4, none⟩ = some (.int .u32 0) := by simpa [u5L, smallU] using hr 4 _ rfl
  have b5 : w7.cell? ⟨b, off + 5, none⟩ = some (.int .i64 1) := by simpa [u5L, smallU] using hr 5 _ rfl
  have b6 : w7.cell? ⟨b, off + 6, none⟩ = some (.int .i64 64) := by simpa [u5L, smallU] using hr 6 _ rfl
  have hr := Lib.hid hr
  clear r7
  go_wp2
  go_region_held3 (fun w' => w'.cell? ⟨w6.heap.size, 0, none⟩ = some (.int .u64 2) ∧ w'.cell? ⟨w6.heap.size, 1, none⟩ = some (.int .u64 1) ∧ w'.cell? ⟨w6.heap.size, 2, none⟩ = some (.int .i64 9) ∧ w'.cell? ⟨w6.heap.size, 3, none⟩ = some (.int .u64 1) ∧ w'.cell? ⟨w6.heap.size, 4, none⟩ = some (.int .u32 0) ∧ w'.cell? ⟨w6.heap.size, 5, none⟩ = some (.int .i64 1) ∧ w'.cell? ⟨w6.heap.size, 6, none⟩ = some (.int .i64 64) ∧ w'.cell? ⟨b, off, none⟩ = some (.int .u64 1) ∧ w'.cell? ⟨b, off + 1, none⟩ = some (.int .u64 1) ∧ w'.cell? ⟨b, off + 2, none⟩ = some (.int .i64 9) ∧ w'.cell? ⟨b, off + 3, none⟩ = some (.int .u64 1) ∧ w'.cell? ⟨b, off + 4, none⟩ = some (.int .u32 0) ∧ w'.cell? ⟨b, off + 5, none⟩ = some (.int .i64 1) ∧ w'.cell? ⟨b, off + 6, none⟩ = some (.int .i64 64)) (first | go_keep | exact hkk)
    (first
    | (go_at_call 30
       first | refine (small_2 _).mono ?_ | refine (small_1 _).mono ?_
       rintro e w8 ⟨rfl, hb⟩
       have hkk : w8.cell? ⟨w6.heap.size, 0, none⟩ = some (.int .u64 2) ∧ w8.cell? ⟨w6.heap.size, 1, none⟩ = some (.int .u64 1) ∧ w8.cell? ⟨w6.heap.size, 2, none⟩ = some (.int .i64 9) ∧ w8.cell? ⟨w6.heap.size, 3, none⟩ = some (.int .u64 1) ∧ w8.cell? ⟨w6.heap.size, 4, none⟩ = some (.int .u32 0) ∧ w8.cell? ⟨w6.heap.size, 5, none⟩ = some (.int .i64 1) ∧ w8.cell? ⟨w6.heap.size, 6, none⟩ = some (.int .i64 64) ∧ w8.cell? ⟨b, off, none⟩ = some (.int .u64 1) ∧ w8.cell? ⟨b, off + 1, none⟩ = some (.int .u64 1) ∧ w8.cell? ⟨b, off + 2, none⟩ = some (.int .i64 9) ∧ w8.cell? ⟨b, off + 3, none⟩ = some (.int .u64 1) ∧ w8.cell? ⟨b, off + 4, none⟩ = some (.int .u32 0) ∧ w8.cell? ⟨b, off + 5, none⟩ = some (.int .i64 1) ∧ w8.cell? ⟨b, off + 6, none⟩ = some (.int .i64 64) := ⟨keepCell hb (by go_keep), keepCell hb (by go_keep), keepCell hb (by go_keep), keepCell hb (by go_keep), keepCell hb (by go_keep), keepCell hb (by go_keep), keepCell hb (by go_keep), keepCell hb (by go_keep), keepCell hb (by go_keep), keepCell hb (by go_keep), keepCell hb (by go_keep), keepCell hb (by go_keep), keepCell hb (by go_keep), keepCell hb (by go_keep)⟩
       first | have h7 := Lib.hid (h7.out.below hb) | have h7 := Lib.hid (h7.out.drew.below hb)
       clear hb)
    | (go_at_call 33
       first | refine (o_Pending h7.out.dev).mono ?_ | refine (o_Pending h7.out.drew.dev).mono ?_
       rintro e w8 ⟨rfl, rfl⟩
       rw [hpend.out]))
  all_goals go_wp2
  all_goals go_ret
  all_goals exact ⟨rfl, by first | exact h7.out.q | exact h7.out.drew.q⟩
end Go.Proofs.Ytfblehdeoloijaa

/- How an uber, a sector and a list of commits read that came in. -/
namespace Go.Proofs.Ytfblehdeoloijaa
open Go.ChangeShapes Go.WideShapes Go.ChangeAt Go.RowKit Go.Deep
set_option linter.unusedVariables false
set_option maxRecDepth 20000

section
variable {H : Type} {enc : TypeId × Value → H} {W : World} {base : Nat} {spare : Nat → Bool} {held : Bool} {fuel : Nat} {cs : List Value} {x : DataW H × List MemPlace}
theorem list3 {α : Type} {l : List α} (h : l.length = 3) : ∃ a b c, l = [a, b, c] := by
  match l, h with
  | [a, b, c], _ => exact ⟨a, b, c, rfl⟩
theorem list7 {α : Type} {l : List α} (h : l.length = 7) : ∃ a b c d e f g, l = [a, b, c, d, e, f, g] := by
  match l, h with
  | [a, b, c, d, e, f, g], _ => exact ⟨a, b, c, d, e, f, g, rfl⟩
theorem open_ptrC (h : DataW.trod enc Try.prog W base spare held fuel 25 cs = some x) : ∃ p : P3, cs = p3L p ∧ p.Fit := by
  obtain ⟨xs, k, _, hxs, hcl, hxl, hfld⟩ := DataW.trod_struct Try.underlying25 h
  have cI : Try.prog.cellsOf 3 = 1 := by kernel_rfl
  have cU : Try.prog.cellsOf 22 = 1 := by kernel_rfl
  have cW : Try.prog.cellsOf 23 = 1 := by kernel_rfl
  have c3 : Try.prog.cellsOf 25 = 3 := by kernel_rfl
  rw [c3] at hcl
  obtain ⟨v0, v1, v2, rfl⟩ := list3 hcl
  have hl3 : xs.length = 3 := hxl
  have g0 : DataW.trod enc Try.prog W base spare held k 3 ((List.drop 0 [v0, v1, v2]).take (Try.prog.cellsOf 3)) = xs[0]? := hfld 0 _ rfl
  have g1 : DataW.trod enc Try.prog W base spare held k 22 ((List.drop 1 [v0, v1, v2]).take (Try.prog.cellsOf 22)) = xs[1]? := hfld 1 _ rfl
  have g2 : DataW.trod enc Try.prog W base spare held k 23 ((List.drop 2 [v0, v1, v2]).take (Try.prog.cellsOf 23)) = xs[2]? := hfld 2 _ rfl
  rw [List.getElem?_eq_getElem (by omega)] at g0 g1 g2
  obtain ⟨a, e0, _, wa⟩ := DataW.trod_int Try.underlying3 g0
  obtain ⟨b, e1, _, wb⟩ := DataW.trod_int Try.underlying22 g1
  obtain ⟨s, e2, _, ws⟩ := DataW.trod_int Try.underlying23 g2
  rw [show (List.drop 0 [v0, v1, v2]).take (Try.prog.cellsOf 3) = [v0] from by rw [cI]; rfl] at e0
  rw [show (List.drop 1 [v0, v1, v2]).take (Try.prog.cellsOf 22) = [v1] from by rw [cU]; rfl] at e1
  rw [show (List.drop 2 [v0, v1, v2]).take (Try.prog.cellsOf 23) = [v2] from by rw [cW]; rfl] at e2
  cases e0; cases e1; cases e2
  obtain ⟨b', rfl, hb⟩ := nat_u64 wb
  obtain ⟨s', rfl, hs⟩ := nat_u32 ws
  exact ⟨⟨a, b', s'⟩, rfl, wf_i64 wa, hb, hs⟩
theorem open_uberC (h : DataW.trod enc Try.prog W base spare held fuel 27 cs = some x) : ∃ u : U5, cs = u5L u ∧ u.Fit := by
  obtain ⟨xs, k, _, hxs, hcl, hxl, hfld⟩ := DataW.trod_struct Try.underlying27 h
  have cI : Try.prog.cellsOf 3 = 1 := by kernel_rfl
  have cU : Try.prog.cellsOf 22 = 1 := by kernel_rfl
  have cP : Try.prog.cellsOf 25 = 3 := by kernel_rfl
  have c7 : Try.prog.cellsOf 27 = 7 := by kernel_rfl
  rw [c7] at hcl
  obtain ⟨v0, v1, v2, v3, v4, v5, v6, rfl⟩ := list7 hcl
  have hl5 : xs.length = 5 := hxl
  have g0 : DataW.trod enc Try.prog W base spare held k 22 ((List.drop 0 [v0, v1, v2, v3, v4, v5, v6]).take (Try.prog.cellsOf 22)) = xs[0]? := hfld 0 _ rfl
  have g1 : DataW.trod enc Try.prog W base spare held k 22 ((List.drop 1 [v0, v1, v2, v3, v4, v5, v6]).take (Try.prog.cellsOf 22)) = xs[1]? := hfld 1 _ rfl
  have g2 : DataW.trod enc Try.prog W base spare held k 25 ((List.drop 2 [v0, v1, v2, v3, v4, v5, v6]).take (Try.prog.cellsOf 25)) = xs[2]? := hfld 2 _ rfl
  have g3 : DataW.trod enc Try.prog W base spare held k 3 ((List.drop 5 [v0, v1, v2, v3, v4, v5, v6]).take (Try.prog.cellsOf 3)) = xs[3]? := hfld 3 _ rfl
  have g4 : DataW.trod enc Try.prog W base spare held k 3 ((List.drop 6 [v0, v1, v2, v3, v4, v5, v6]).take (Try.prog.cellsOf 3)) = xs[4]? := hfld 4 _ rfl
  rw [List.getElem?_eq_getElem (by omega)] at g0 g1 g2 g3 g4
  obtain ⟨a, e0, _, wa⟩ := DataW.trod_int Try.underlying22 g0
  obtain ⟨b, e1, _, wb⟩ := DataW.trod_int Try.underlying22 g1
  obtain ⟨p, e2, hp⟩ := open_ptrC g2
  obtain ⟨l, e3, _, wl⟩ := DataW.trod_int Try.underlying3 g3
  obtain ⟨n, e4, _, wn⟩ := DataW.trod_int Try.underlying3 g4
  rw [show (List.drop 0 [v0, v1, v2, v3, v4, v5, v6]).take (Try.prog.cellsOf 22) = [v0] from by rw [cU]; rfl] at e0
  rw [show (List.drop 1 [v0, v1, v2, v3, v4, v5, v6]).take (Try.prog.cellsOf 22) = [v1] from by rw [cU]; rfl] at e1
  rw [show (List.drop 2 [v0, v1, v2, v3, v4, v5, v6]).take (Try.prog.cellsOf 25) = [v2, v3, v4] from by rw [cP]; rfl] at e2
  rw [show (List.drop 5 [v0, v1, v2, v3, v4, v5, v6]).take (Try.prog.cellsOf 3) = [v5] from by rw [cI]; rfl] at e3
  rw [show (List.drop 6 [v0, v1, v2, v3, v4, v5, v6]).take (Try.prog.cellsOf 3) = [v6] from by rw [cI]; rfl] at e4
  cases e0; cases e1; cases e3; cases e4
  simp only [p3L, List.cons.injEq, and_true] at e2
  obtain ⟨rfl, rfl, rfl⟩ := e2
  obtain ⟨a', rfl, ha⟩ := nat_u64 wa
  obtain ⟨b', rfl, hb⟩ := nat_u64 wb
  exact ⟨⟨a', b', p, l, n⟩, rfl, ha, hb, hp, wf_i64 wl, wf_i64 wn⟩
end

section
variable {H : Type} {enc : TypeId × Value → H} {W : World} {base : Nat} {v : Value} {d : DataW H} {ps : List MemPlace}
theorem open_uber (h : DataW.Trod enc Try.prog W 0 (fun _ => true) true 27 v d ps) (hv : Value.okWide Try.prog W .any base 27 v) : ∃ u : U5, v = u5V u ∧ u.Fit := by
  obtain ⟨cs, rfl, hsz⟩ := okWide_struct Try.underlying27 hv
  obtain ⟨fuel, hf⟩ := h
  obtain ⟨u, e, hu⟩ := open_uberC hf
  refine ⟨u, ?_, hu⟩
  rw [u5V_L, ← e]
  rfl
theorem okWide_arr {P : Program} {w : World} {t e : TypeId} {n : Nat} {r : Reach} (ht : P.underlying t = some (.array n e)) (h : Value.okWide P w r base t v) : ∃ cs, v = .agg cs := by
  simp only [Value.okWide, ht] at h
  obtain ⟨cs, h1, _⟩ := h
  exact ⟨cs, h1⟩
theorem open_secA (h : DataW.Trod enc Try.prog W 0 (fun _ => true) true 34 v d ps) (hv : Value.okWide Try.prog W .any base 34 v) : ∃ s : Sec, v = .agg (secL s).toArray := by
  obtain ⟨cs, rfl⟩ := okWide_arr Try.underlying34 hv
  obtain ⟨fuel, hf⟩ := h
  obtain ⟨s, e⟩ := open_sec hf
  refine ⟨s, ?_⟩
  rw [← e]
  rfl
end
end Go.Proofs.Ytfblehdeoloijaa
