/- PtrOrder, for every input: the law returns true and each argument reads behind the call as before. No condition. -/
import Derived.Test.YtlkfmifjfcjcoaaPtrE
namespace Go.Proofs.Ytlkfmifjfcjcoaa.lawPtrOrder
open Go.ChangeShapes Go.WideShapes Go.ChangeAt Go.RowKit Go.Deep
set_option linter.unusedVariables false

set_option maxHeartbeats 4000000 in
theorem way_a1 (p q r : P3) (w : World) (hp : p.Fit) (hq0 : q.Fit) (hr0 : r.Fit) (pq : p.lessB q = true) (qp : q.lessB p = false) (eq : p.eqB q = false) (qr : q.lessB r = true) (pr : p.lessB r = true) (si : p.sinceB r.b = true) (rp : r.lessB p = true) :
    Calls Try.prog 7 #[p3V p, p3V q, p3V r] w fun e w' => e = .returned (.bool true) ∧ Below w.heap.size w w' := by
  have c_pq : ∀ W, Calls Try.prog 12 #[.agg #[.int .i64 p.a, .int .u64 (p.b : Int), .int .u32 (p.s : Int)], .agg #[.int .i64 q.a, .int .u64 (q.b : Int), .int .u32 (q.s : Int)]] W fun e w' => e = .returned (.bool true) ∧ Below W.heap.size W w' := fun W => by have h := Less_any p.a p.b p.s q.a q.b q.s W hp hq0; rw [show P3.lessB ⟨p.a, p.b, p.s⟩ ⟨q.a, q.b, q.s⟩ = true from pq] at h; exact h
  have C_pq := Lib.hid c_pq
  clear c_pq
  have c_qp : ∀ W, Calls Try.prog 12 #[.agg #[.int .i64 q.a, .int .u64 (q.b : Int), .int .u32 (q.s : Int)], .agg #[.int .i64 p.a, .int .u64 (p.b : Int), .int .u32 (p.s : Int)]] W fun e w' => e = .returned (.bool false) ∧ Below W.heap.size W w' := fun W => by have h := Less_any q.a q.b q.s p.a p.b p.s W hq0 hp; rw [show P3.lessB ⟨q.a, q.b, q.s⟩ ⟨p.a, p.b, p.s⟩ = false from qp] at h; exact h
  have C_qp := Lib.hid c_qp
  clear c_qp
  have c_qr : ∀ W, Calls Try.prog 12 #[.agg #[.int .i64 q.a, .int .u64 (q.b : Int), .int .u32 (q.s : Int)], .agg #[.int .i64 r.a, .int .u64 (r.b : Int), .int .u32 (r.s : Int)]] W fun e w' => e = .returned (.bool true) ∧ Below W.heap.size W w' := fun W => by have h := Less_any q.a q.b q.s r.a r.b r.s W hq0 hr0; rw [show P3.lessB ⟨q.a, q.b, q.s⟩ ⟨r.a, r.b, r.s⟩ = true from qr] at h; exact h
  have C_qr := Lib.hid c_qr
  clear c_qr
  have c_pr : ∀ W, Calls Try.prog 12 #[.agg #[.int .i64 p.a, .int .u64 (p.b : Int), .int .u32 (p.s : Int)], .agg #[.int .i64 r.a, .int .u64 (r.b : Int), .int .u32 (r.s : Int)]] W fun e w' => e = .returned (.bool true) ∧ Below W.heap.size W w' := fun W => by have h := Less_any p.a p.b p.s r.a r.b r.s W hp hr0; rw [show P3.lessB ⟨p.a, p.b, p.s⟩ ⟨r.a, r.b, r.s⟩ = true from pr] at h; exact h
  have C_pr := Lib.hid c_pr
  clear c_pr
  have c_rp : ∀ W, Calls Try.prog 12 #[.agg #[.int .i64 r.a, .int .u64 (r.b : Int), .int .u32 (r.s : Int)], .agg #[.int .i64 p.a, .int .u64 (p.b : Int), .int .u32 (p.s : Int)]] W fun e w' => e = .returned (.bool true) ∧ Below W.heap.size W w' := fun W => by have h := Less_any r.a r.b r.s p.a p.b p.s W hr0 hp; rw [show P3.lessB ⟨r.a, r.b, r.s⟩ ⟨p.a, p.b, p.s⟩ = true from rp] at h; exact h
  have C_rp := Lib.hid c_rp
  clear c_rp
  have c_si : ∀ W, Calls Try.prog 14 #[.agg #[.int .i64 p.a, .int .u64 (p.b : Int), .int .u32 (p.s : Int)], .int .u64 (r.b : Int)] W fun e w' => e = .returned (.bool true) ∧ Below W.heap.size W w' := fun W => by have h := Since_any p.a p.b p.s r.b W hp hr0.2.1; rw [show P3.sinceB ⟨p.a, p.b, p.s⟩ r.b = true from si] at h; exact h
  have C_si := Lib.hid c_si
  clear c_si
  have hE : ∀ W, (Op.equalIn 10000 26 (.agg #[.int .i64 p.a, .int .u64 (p.b : Int), .int .u32 (p.s : Int)]) (.agg #[.int .i64 q.a, .int .u64 (q.b : Int), .int .u32 (q.s : Int)])).run Try.prog W = .ok false W := fun W => by rw [← eq]; exact eqPtr W p q
  clear hp hq0 hr0 eq si pq qp qr pr rp
  have hq := Lib.hid ((((Below.refl w.heap.size w).alloc (Nat.le_refl _) (.cells #[.int .i64 p.a, .int .u64 (p.b : Int), .int .u32 (p.s : Int)] 26)).alloc (by simp) (.cells #[.int .i64 q.a, .int .u64 (q.b : Int), .int .u32 (q.s : Int)] 26)).alloc (by simp; omega) (.cells #[.int .i64 r.a, .int .u64 (r.b : Int), .int .u32 (r.s : Int)] 26))
  have P1 := ((PtrAt.first w p).alloc (.cells #[.int .i64 q.a, .int .u64 (q.b : Int), .int .u32 (q.s : Int)] 26)).alloc (.cells #[.int .i64 r.a, .int .u64 (r.b : Int), .int .u32 (r.s : Int)] 26)
  have Q1 := (PtrAt.first (w.alloc (.cells #[.int .i64 p.a, .int .u64 (p.b : Int), .int .u32 (p.s : Int)] 26)) q).alloc (.cells #[.int .i64 r.a, .int .u64 (r.b : Int), .int .u32 (r.s : Int)] 26)
  have R1 := PtrAt.first ((w.alloc (.cells #[.int .i64 p.a, .int .u64 (p.b : Int), .int .u32 (p.s : Int)] 26)).alloc (.cells #[.int .i64 q.a, .int .u64 (q.b : Int), .int .u32 (q.s : Int)] 26)) r
  rw [show (w.alloc (.cells #[.int .i64 p.a, .int .u64 (p.b : Int), .int .u32 (p.s : Int)] 26)).heap.size = w.heap.size + 1 from by simp] at Q1
  rw [show ((w.alloc (.cells #[.int .i64 p.a, .int .u64 (p.b : Int), .int .u32 (p.s : Int)] 26)).alloc (.cells #[.int .i64 q.a, .int .u64 (q.b : Int), .int .u32 (q.s : Int)] 26)).heap.size = w.heap.size + 2 from by simp] at R1
  obtain ⟨c0, c1, c2⟩ := P1.cells
  obtain ⟨c3, c4, c5⟩ := Q1.cells
  obtain ⟨c6, c7, c8⟩ := R1.cells
  have P1 := Lib.hid P1
  have Q1 := Lib.hid Q1
  have R1 := Lib.hid R1
  unfold p3V
  go_enter Try.func7, Try.ntmps7
  go_wp2_with fail
  refine (alive_any _).mono ?_
  rintro e w1 ⟨rfl, hb⟩
  clear c0 c1 c2 c3 c4 c5 c6 c7 c8
  have P1 := Lib.hid (P1.out.next hb)
  have Q1 := Lib.hid (Q1.out.next hb)
  have R1 := Lib.hid (R1.out.next hb)
  obtain ⟨c0, c1, c2⟩ := P1.out.cells
  obtain ⟨c3, c4, c5⟩ := Q1.out.cells
  obtain ⟨c6, c7, c8⟩ := R1.out.cells
  have hq := Lib.hid (hq.out.trans (hb.mono hq.out.size))
  go_wp2
  refine inO_region [(0, fun w' => w'.rangeAt (w.heap.size) (0) ([.int .i64 p.a, .int .u64 (p.b : Int), .int .u32 (p.s : Int)])), (1, fun w' => w'.rangeAt (w.heap.size + 1) (0) ([.int .i64 q.a, .int .u64 (q.b : Int), .int .u32 (q.s : Int)])), (4, fun w' => w'.rangeAt (w.heap.size + 1) (0) ([.int .i64 q.a, .int .u64 (q.b : Int), .int .u32 (q.s : Int)])), (5, fun w' => w'.rangeAt (w.heap.size) (0) ([.int .i64 p.a, .int .u64 (p.b : Int), .int .u32 (p.s : Int)])), (9, fun w' => w'.rangeAt (w.heap.size) (0) ([.int .i64 p.a, .int .u64 (p.b : Int), .int .u32 (p.s : Int)])), (10, fun w' => w'.rangeAt (w.heap.size + 1) (0) ([.int .i64 q.a, .int .u64 (q.b : Int), .int .u32 (q.s : Int)])), (19, fun w' => w'.rangeAt (w.heap.size) (0) ([.int .i64 p.a, .int .u64 (p.b : Int), .int .u32 (p.s : Int)])), (20, fun w' => w'.rangeAt (w.heap.size + 1) (0) ([.int .i64 q.a, .int .u64 (q.b : Int), .int .u32 (q.s : Int)]))] (by kernel_rfl) (Owed.cons ((P1.out.drew.range)) (Owed.cons ((Q1.out.drew.range)) (Owed.cons ((Q1.out.drew.range)) (Owed.cons ((P1.out.drew.range)) (Owed.cons ((P1.out.drew.range)) (Owed.cons ((Q1.out.drew.range)) (Owed.cons ((P1.out.drew.range)) (Owed.cons ((Q1.out.drew.range)) (Owed.nil _ _))))))))) ?_
  refine inO_load 0 ⟨_, _, _, _, _, _⟩ (.agg ([.int .i64 p.a, .int .u64 (p.b : Int), .int .u32 (p.s : Int)]).toArray) (fun w' => w'.rangeAt (w.heap.size) (0) ([.int .i64 p.a, .int .u64 (p.b : Int), .int .u32 (p.s : Int)])) rfl (by kernel_rfl) (by kernel_rfl) (by kernel_rfl) (fun _ _ _ h => h) rfl (.head _) (fun ww hw => exec_load_mid _ _ (by rfl) _ _ (by rfl) _ _ hw Try.underlying26 rfl (infoPtr p)) ?_
  simp only [Act.put, List.setIfInBounds_toArray, List.set_cons_zero, List.set_cons_succ]
  refine inO_load 1 ⟨_, _, _, _, _, _⟩ (.agg ([.int .i64 q.a, .int .u64 (q.b : Int), .int .u32 (q.s : Int)]).toArray) (fun w' => w'.rangeAt (w.heap.size + 1) (0) ([.int .i64 q.a, .int .u64 (q.b : Int), .int .u32 (q.s : Int)])) rfl (by kernel_rfl) (by kernel_rfl) (by kernel_rfl) (fun _ _ _ h => h) rfl (.tail _ (.head _)) (fun ww hw => exec_load_mid _ _ (by rfl) _ _ (by rfl) _ _ hw Try.underlying26 rfl (infoPtr q)) ?_
  simp only [Act.put, List.setIfInBounds_toArray, List.set_cons_zero, List.set_cons_succ]
  refine inO_step 2 ⟨_, _, _, _, _, _⟩ rfl (by kernel_rfl) rfl (fun K hK => ?_)
  refine wp_call Try.func12 (by kernel_rfl) rfl _ _ rfl _ rfl _ (C_pq.out _) fun e v1 h => ?_
  obtain ⟨rfl, hb⟩ := h
  refine ⟨_, rfl, ?_⟩
  have hq := Lib.hid (hq.out.drew.trans (hb.mono hq.out.size))
  have P1 := Lib.hid (P1.out.drew.next hb)
  have Q1 := Lib.hid (Q1.out.drew.next hb)
  have R1 := Lib.hid (R1.out.drew.next hb)
  refine hK _ _ (Keeps.cons (fun h j v hv => keepCell hb (h j v hv)) (Keeps.cons (fun h j v hv => keepCell hb (h j v hv)) (Keeps.cons (fun h j v hv => keepCell hb (h j v hv)) (Keeps.cons (fun h j v hv => keepCell hb (h j v hv)) (Keeps.cons (fun h j v hv => keepCell hb (h j v hv)) (Keeps.cons (fun h j v hv => keepCell hb (h j v hv)) (Keeps.cons (fun h j v hv => keepCell hb (h j v hv)) (Keeps.cons (fun h j v hv => keepCell hb (h j v hv)) (Keeps.nil _ _ _))))))))) ?_
  clear hK K
  simp only [Act.put, List.setIfInBounds_toArray, List.set_cons_zero, List.set_cons_succ]
  refine inO_take 3 ⟨_, _, _, _, _, _⟩ (.bool true) rfl (by kernel_rfl) (by kernel_rfl) (by kernel_rfl) (fun _ _ _ h => h) rfl (fun ww => exec_move (by rfl) (by rfl) ww) ?_
  simp only [Act.put, List.setIfInBounds_toArray, List.set_cons_zero, List.set_cons_succ]
  refine inO_load 4 ⟨_, _, _, _, _, _⟩ (.agg ([.int .i64 q.a, .int .u64 (q.b : Int), .int .u32 (q.s : Int)]).toArray) (fun w' => w'.rangeAt (w.heap.size + 1) (0) ([.int .i64 q.a, .int .u64 (q.b : Int), .int .u32 (q.s : Int)])) rfl (by kernel_rfl) (by kernel_rfl) (by kernel_rfl) (fun _ _ _ h => h) rfl (.tail _ (.tail _ (.head _))) (fun ww hw => exec_load_mid _ _ (by rfl) _ _ (by rfl) _ _ hw Try.underlying26 rfl (infoPtr q)) ?_
  simp only [Act.put, List.setIfInBounds_toArray, List.set_cons_zero, List.set_cons_succ]
  refine inO_load 5 ⟨_, _, _, _, _, _⟩ (.agg ([.int .i64 p.a, .int .u64 (p.b : Int), .int .u32 (p.s : Int)]).toArray) (fun w' => w'.rangeAt (w.heap.size) (0) ([.int .i64 p.a, .int .u64 (p.b : Int), .int .u32 (p.s : Int)])) rfl (by kernel_rfl) (by kernel_rfl) (by kernel_rfl) (fun _ _ _ h => h) rfl (.tail _ (.tail _ (.tail _ (.head _)))) (fun ww hw => exec_load_mid _ _ (by rfl) _ _ (by rfl) _ _ hw Try.underlying26 rfl (infoPtr p)) ?_
  simp only [Act.put, List.setIfInBounds_toArray, List.set_cons_zero, List.set_cons_succ]
  refine inO_step 6 ⟨_, _, _, _, _, _⟩ rfl (by kernel_rfl) rfl (fun K hK => ?_)
  refine wp_call Try.func12 (by kernel_rfl) rfl _ _ rfl _ rfl _ (C_qp.out _) fun e v2 h => ?_
  obtain ⟨rfl, hb⟩ := h
  refine ⟨_, rfl, ?_⟩
  have hq := Lib.hid (hq.out.trans (hb.mono hq.out.size))
  have P1 := Lib.hid (P1.out.next hb)
  have Q1 := Lib.hid (Q1.out.next hb)
  have R1 := Lib.hid (R1.out.next hb)
  refine hK _ _ (Keeps.cons (fun h j v hv => keepCell hb (h j v hv)) (Keeps.cons (fun h j v hv => keepCell hb (h j v hv)) (Keeps.cons (fun h j v hv => keepCell hb (h j v hv)) (Keeps.cons (fun h j v hv => keepCell hb (h j v hv)) (Keeps.cons (fun h j v hv => keepCell hb (h j v hv)) (Keeps.cons (fun h j v hv => keepCell hb (h j v hv)) (Keeps.cons (fun h j v hv => keepCell hb (h j v hv)) (Keeps.cons (fun h j v hv => keepCell hb (h j v hv)) (Keeps.nil _ _ _))))))))) ?_
  clear hK K
  simp only [Act.put, List.setIfInBounds_toArray, List.set_cons_zero, List.set_cons_succ]
  refine inO_take 7 ⟨_, _, _, _, _, _⟩ (.bool false) rfl (by kernel_rfl) (by kernel_rfl) (by kernel_rfl) (fun _ _ _ h => h) rfl (fun ww => by go_simp) ?_
  simp only [Act.put, List.setIfInBounds_toArray, List.set_cons_zero, List.set_cons_succ]
  refine inO_take 8 ⟨_, _, _, _, _, _⟩ (.bool false) rfl (by kernel_rfl) (by kernel_rfl) (by kernel_rfl) (fun _ _ _ h => h) rfl (fun ww => exec_move (by rfl) (by rfl) ww) ?_
  simp only [Act.put, List.setIfInBounds_toArray, List.set_cons_zero, List.set_cons_succ]
  refine inO_load 9 ⟨_, _, _, _, _, _⟩ (.agg ([.int .i64 p.a, .int .u64 (p.b : Int), .int .u32 (p.s : Int)]).toArray) (fun w' => w'.rangeAt (w.heap.size) (0) ([.int .i64 p.a, .int .u64 (p.b : Int), .int .u32 (p.s : Int)])) rfl (by kernel_rfl) (by kernel_rfl) (by kernel_rfl) (fun _ _ _ h => h) rfl (.tail _ (.tail _ (.tail _ (.tail _ (.head _))))) (fun ww hw => exec_load_mid _ _ (by rfl) _ _ (by rfl) _ _ hw Try.underlying26 rfl (infoPtr p)) ?_
  simp only [Act.put, List.setIfInBounds_toArray, List.set_cons_zero, List.set_cons_succ]
  refine inO_load 10 ⟨_, _, _, _, _, _⟩ (.agg ([.int .i64 q.a, .int .u64 (q.b : Int), .int .u32 (q.s : Int)]).toArray) (fun w' => w'.rangeAt (w.heap.size + 1) (0) ([.int .i64 q.a, .int .u64 (q.b : Int), .int .u32 (q.s : Int)])) rfl (by kernel_rfl) (by kernel_rfl) (by kernel_rfl) (fun _ _ _ h => h) rfl (.tail _ (.tail _ (.tail _ (.tail _ (.tail _ (.head _)))))) (fun ww hw => exec_load_mid _ _ (by rfl) _ _ (by rfl) _ _ hw Try.underlying26 rfl (infoPtr q)) ?_
  simp only [Act.put, List.setIfInBounds_toArray, List.set_cons_zero, List.set_cons_succ]
  refine inO_load 19 ⟨_, _, _, _, _, _⟩ (.agg ([.int .i64 p.a, .int .u64 (p.b : Int), .int .u32 (p.s : Int)]).toArray) (fun w' => w'.rangeAt (w.heap.size) (0) ([.int .i64 p.a, .int .u64 (p.b : Int), .int .u32 (p.s : Int)])) rfl (by kernel_rfl) (by kernel_rfl) (by kernel_rfl) (fun _ _ _ h => h) rfl (.tail _ (.tail _ (.tail _ (.tail _ (.tail _ (.tail _ (.head _))))))) (fun ww hw => exec_load_mid _ _ (by rfl) _ _ (by rfl) _ _ hw Try.underlying26 rfl (infoPtr p)) ?_
  simp only [Act.put, List.setIfInBounds_toArray, List.set_cons_zero, List.set_cons_succ]
  refine inO_load 20 ⟨_, _, _, _, _, _⟩ (.agg ([.int .i64 q.a, .int .u64 (q.b : Int), .int .u32 (q.s : Int)]).toArray) (fun w' => w'.rangeAt (w.heap.size + 1) (0) ([.int .i64 q.a, .int .u64 (q.b : Int), .int .u32 (q.s : Int)])) rfl (by kernel_rfl) (by kernel_rfl) (by kernel_rfl) (fun _ _ _ h => h) rfl (.tail _ (.tail _ (.tail _ (.tail _ (.tail _ (.tail _ (.tail _ (.head _)))))))) (fun ww hw => exec_load_mid _ _ (by rfl) _ _ (by rfl) _ _ hw Try.underlying26 rfl (infoPtr q)) ?_
  simp only [Act.put, List.setIfInBounds_toArray, List.set_cons_zero, List.set_cons_succ]
  refine inO_take 21 ⟨_, _, _, _, _, _⟩ (.bool false) rfl (by kernel_rfl) (by kernel_rfl) (by kernel_rfl) (fun _ _ _ h => h) rfl (fun ww => by go_simp) ?_
  simp only [Act.put, List.setIfInBounds_toArray, List.set_cons_zero, List.set_cons_succ]
  refine inO_step 11 ⟨_, _, _, _, _, _⟩ rfl (by kernel_rfl) rfl (fun K hK => ?_)
  refine wp_call Try.func12 (by kernel_rfl) rfl _ _ rfl _ rfl _ (C_pq.out _) fun e v3 h => ?_
  obtain ⟨rfl, hb⟩ := h
  refine ⟨_, rfl, ?_⟩
  have hq := Lib.hid (hq.out.trans (hb.mono hq.out.size))
  have P1 := Lib.hid (P1.out.next hb)
  have Q1 := Lib.hid (Q1.out.next hb)
  have R1 := Lib.hid (R1.out.next hb)
  refine hK _ _ (Keeps.cons (fun h j v hv => keepCell hb (h j v hv)) (Keeps.cons (fun h j v hv => keepCell hb (h j v hv)) (Keeps.cons (fun h j v hv => keepCell hb (h j v hv)) (Keeps.cons (fun h j v hv => keepCell hb (h j v hv)) (Keeps.cons (fun h j v hv => keepCell hb (h j v hv)) (Keeps.cons (fun h j v hv => keepCell hb (h j v hv)) (Keeps.cons (fun h j v hv => keepCell hb (h j v hv)) (Keeps.cons (fun h j v hv => keepCell hb (h j v hv)) (Keeps.nil _ _ _))))))))) ?_
  clear hK K
  simp only [Act.put, List.setIfInBounds_toArray, List.set_cons_zero, List.set_cons_succ]
  refine inO_take 12 ⟨_, _, _, _, _, _⟩ (.bool false) rfl (by kernel_rfl) (by kernel_rfl) (by kernel_rfl) (fun _ _ _ h => h) rfl (fun ww => by go_simp) ?_
  simp only [Act.put, List.setIfInBounds_toArray, List.set_cons_zero, List.set_cons_succ]
  refine inO_take 13 ⟨_, _, _, _, _, _⟩ (.bool false) rfl (by kernel_rfl) (by kernel_rfl) (by kernel_rfl) (fun _ _ _ h => h) rfl (fun ww => exec_move (by rfl) (by rfl) ww) ?_
  simp only [Act.put, List.setIfInBounds_toArray, List.set_cons_zero, List.set_cons_succ]
  refine inO_pass 14 ⟨_, _, _, _, _, _⟩ rfl (by kernel_rfl) (by kernel_rfl) (by kernel_rfl) (fun _ _ _ h => h) rfl ?_
  simp only [Act.put, List.setIfInBounds_toArray, List.set_cons_zero, List.set_cons_succ]
  refine inO_pass 15 ⟨_, _, _, _, _, _⟩ rfl (by kernel_rfl) (by kernel_rfl) (by kernel_rfl) (fun _ _ _ h => h) rfl ?_
  simp only [Act.put, List.setIfInBounds_toArray, List.set_cons_zero, List.set_cons_succ]
  refine inO_pass 16 ⟨_, _, _, _, _, _⟩ rfl (by kernel_rfl) (by kernel_rfl) (by kernel_rfl) (fun _ _ _ h => h) rfl ?_
  simp only [Act.put, List.setIfInBounds_toArray, List.set_cons_zero, List.set_cons_succ]
  refine inO_pass 17 ⟨_, _, _, _, _, _⟩ rfl (by kernel_rfl) (by kernel_rfl) (by kernel_rfl) (fun _ _ _ h => h) rfl ?_
  simp only [Act.put, List.setIfInBounds_toArray, List.set_cons_zero, List.set_cons_succ]
  refine inO_take 18 ⟨_, _, _, _, _, _⟩ (.bool false) rfl (by kernel_rfl) (by kernel_rfl) (by kernel_rfl) (fun _ _ _ h => h) rfl (fun ww => by go_simp) ?_
  simp only [Act.put, List.setIfInBounds_toArray, List.set_cons_zero, List.set_cons_succ]
  refine inO_take 22 ⟨_, _, _, _, _, _⟩ (.bool false) rfl (by kernel_rfl) (by kernel_rfl) (by kernel_rfl) (fun _ _ _ h => h) rfl (fun ww => by go_simp) ?_
  simp only [Act.put, List.setIfInBounds_toArray, List.set_cons_zero, List.set_cons_succ]
  refine inO_take 23 ⟨_, _, _, _, _, _⟩ (.bool false) rfl (by kernel_rfl) (by kernel_rfl) (by kernel_rfl) (fun _ _ _ h => h) rfl (fun ww => by go_simp) ?_
  simp only [Act.put, List.setIfInBounds_toArray, List.set_cons_zero, List.set_cons_succ]
  refine inO_done (by kernel_rfl) ?_
  clear c0 c1 c2 c3 c4 c5 c6 c7 c8
  obtain ⟨c0, c1, c2⟩ := P1.out.cells
  obtain ⟨c3, c4, c5⟩ := Q1.out.cells
  obtain ⟨c6, c7, c8⟩ := R1.out.cells
  go_wp2_with fail
  refine (C_pq.out _).mono ?_
  rintro e w3 ⟨rfl, hb⟩
  clear c0 c1 c2 c3 c4 c5 c6 c7 c8
  have P1 := Lib.hid (P1.out.next hb)
  have Q1 := Lib.hid (Q1.out.next hb)
  have R1 := Lib.hid (R1.out.next hb)
  obtain ⟨c0, c1, c2⟩ := P1.out.cells
  obtain ⟨c3, c4, c5⟩ := Q1.out.cells
  obtain ⟨c6, c7, c8⟩ := R1.out.cells
  have hq := Lib.hid (hq.out.trans (hb.mono hq.out.size))
  go_wp2_with fail
  refine (C_qr.out _).mono ?_
  rintro e w4 ⟨rfl, hb⟩
  clear c0 c1 c2 c3 c4 c5 c6 c7 c8
  have P1 := Lib.hid (P1.out.next hb)
  have Q1 := Lib.hid (Q1.out.next hb)
  have R1 := Lib.hid (R1.out.next hb)
  obtain ⟨c0, c1, c2⟩ := P1.out.cells
  obtain ⟨c3, c4, c5⟩ := Q1.out.cells
  obtain ⟨c6, c7, c8⟩ := R1.out.cells
  have hq := Lib.hid (hq.out.trans (hb.mono hq.out.size))
  go_wp2_with fail
  refine (C_pr.out _).mono ?_
  rintro e w5 ⟨rfl, hb⟩
  clear c0 c1 c2 c3 c4 c5 c6 c7 c8
  have P1 := Lib.hid (P1.out.next hb)
  have Q1 := Lib.hid (Q1.out.next hb)
  have R1 := Lib.hid (R1.out.next hb)
  obtain ⟨c0, c1, c2⟩ := P1.out.cells
  obtain ⟨c3, c4, c5⟩ := Q1.out.cells
  obtain ⟨c6, c7, c8⟩ := R1.out.cells
  have hq := Lib.hid (hq.out.trans (hb.mono hq.out.size))
  go_wp2_with fail
  refine (C_si.out _).mono ?_
  rintro e w6 ⟨rfl, hb⟩
  clear c0 c1 c2 c3 c4 c5 c6 c7 c8
  have P1 := Lib.hid (P1.out.next hb)
  have Q1 := Lib.hid (Q1.out.next hb)
  have R1 := Lib.hid (R1.out.next hb)
  obtain ⟨c0, c1, c2⟩ := P1.out.cells
  obtain ⟨c3, c4, c5⟩ := Q1.out.cells
  obtain ⟨c6, c7, c8⟩ := R1.out.cells
  have hq := Lib.hid (hq.out.trans (hb.mono hq.out.size))
  go_wp2_with fail
  refine (C_rp.out _).mono ?_
  rintro e w7 ⟨rfl, hb⟩
  clear c0 c1 c2 c3 c4 c5 c6 c7 c8
  have P1 := Lib.hid (P1.out.next hb)
  have Q1 := Lib.hid (Q1.out.next hb)
  have R1 := Lib.hid (R1.out.next hb)
  obtain ⟨c0, c1, c2⟩ := P1.out.cells
  obtain ⟨c3, c4, c5⟩ := Q1.out.cells
  obtain ⟨c6, c7, c8⟩ := R1.out.cells
  have hq := Lib.hid (hq.out.trans (hb.mono hq.out.size))
  go_wp2
  go_ret
  exact ⟨rfl, hq.out⟩

set_option maxHeartbeats 4000000 in
theorem way_a2 (p q r : P3) (w : World) (hp : p.Fit) (hq0 : q.Fit) (hr0 : r.Fit) (pq : p.lessB q = true) (qp : q.lessB p = false) (eq : p.eqB q = false) (qr : q.lessB r = true) (pr : p.lessB r = true) (si : p.sinceB r.b = false) :
    Calls Try.prog 7 #[p3V p, p3V q, p3V r] w fun e w' => e = .returned (.bool true) ∧ Below w.heap.size w w' := by
  have c_pq : ∀ W, Calls Try.prog 12 #[.agg #[.int .i64 p.a, .int .u64 (p.b : Int), .int .u32 (p.s : Int)], .agg #[.int .i64 q.a, .int .u64 (q.b : Int), .int .u32 (q.s : Int)]] W fun e w' => e = .returned (.bool true) ∧ Below W.heap.size W w' := fun W => by have h := Less_any p.a p.b p.s q.a q.b q.s W hp hq0; rw [show P3.lessB ⟨p.a, p.b, p.s⟩ ⟨q.a, q.b, q.s⟩ = true from pq] at h; exact h
  have C_pq := Lib.hid c_pq
  clear c_pq
  have c_qp : ∀ W, Calls Try.prog 12 #[.agg #[.int .i64 q.a, .int .u64 (q.b : Int), .int .u32 (q.s : Int)], .agg #[.int .i64 p.a, .int .u64 (p.b : Int), .int .u32 (p.s : Int)]] W fun e w' => e = .returned (.bool false) ∧ Below W.heap.size W w' := fun W => by have h := Less_any q.a q.b q.s p.a p.b p.s W hq0 hp; rw [show P3.lessB ⟨q.a, q.b, q.s⟩ ⟨p.a, p.b, p.s⟩ = false from qp] at h; exact h
  have C_qp := Lib.hid c_qp
  clear c_qp
  have c_qr : ∀ W, Calls Try.prog 12 #[.agg #[.int .i64 q.a, .int .u64 (q.b : Int), .int .u32 (q.s : Int)], .agg #[.int .i64 r.a, .int .u64 (r.b : Int), .int .u32 (r.s : Int)]] W fun e w' => e = .returned (.bool true) ∧ Below W.heap.size W w' := fun W => by have h := Less_any q.a q.b q.s r.a r.b r.s W hq0 hr0; rw [show P3.lessB ⟨q.a, q.b, q.s⟩ ⟨r.a, r.b, r.s⟩ = true from qr] at h; exact h
  have C_qr := Lib.hid c_qr
  clear c_qr
  have c_pr : ∀ W, Calls Try.prog 12 #[.agg #[.int .i64 p.a, .int .u64 (p.b : Int), .int .u32 (p.s : Int)], .agg #[.int .i64 r.a, .int .u64 (r.b : Int), .int .u32 (r.s : Int)]] W fun e w' => e = .returned (.bool true) ∧ Below W.heap.size W w' := fun W => by have h := Less_any p.a p.b p.s r.a r.b r.s W hp hr0; rw [show P3.lessB ⟨p.a, p.b, p.s⟩ ⟨r.a, r.b, r.s⟩ = true from pr] at h; exact h
  have C_pr := Lib.hid c_pr
  clear c_pr
  have c_si : ∀ W, Calls Try.prog 14 #[.agg #[.int .i64 p.a, .int .u64 (p.b : Int), .int .u32 (p.s : Int)], .int .u64 (r.b : Int)] W fun e w' => e = .returned (.bool false) ∧ Below W.heap.size W w' := fun W => by have h := Since_any p.a p.b p.s r.b W hp hr0.2.1; rw [show P3.sinceB ⟨p.a, p.b, p.s⟩ r.b = false from si] at h; exact h
  have C_si := Lib.hid c_si
  clear c_si
  have hE : ∀ W, (Op.equalIn 10000 26 (.agg #[.int .i64 p.a, .int .u64 (p.b : Int), .int .u32 (p.s : Int)]) (.agg #[.int .i64 q.a, .int .u64 (q.b : Int), .int .u32 (q.s : Int)])).run Try.prog W = .ok false W := fun W => by rw [← eq]; exact eqPtr W p q
  clear hp hq0 hr0 eq si pq qp qr pr
  have hq := Lib.hid ((((Below.refl w.heap.size w).alloc (Nat.le_refl _) (.cells #[.int .i64 p.a, .int .u64 (p.b : Int), .int .u32 (p.s : Int)] 26)).alloc (by simp) (.cells #[.int .i64 q.a, .int .u64 (q.b : Int), .int .u32 (q.s : Int)] 26)).alloc (by simp; omega) (.cells #[.int .i64 r.a, .int .u64 (r.b : Int), .int .u32 (r.s : Int)] 26))
  have P1 := ((PtrAt.first w p).alloc (.cells #[.int .i64 q.a, .int .u64 (q.b : Int), .int .u32 (q.s : Int)] 26)).alloc (.cells #[.int .i64 r.a, .int .u64 (r.b : Int), .int .u32 (r.s : Int)] 26)
  have Q1 := (PtrAt.first (w.alloc (.cells #[.int .i64 p.a, .int .u64 (p.b : Int), .int .u32 (p.s : Int)] 26)) q).alloc (.cells #[.int .i64 r.a, .int .u64 (r.b : Int), .int .u32 (r.s : Int)] 26)
  have R1 := PtrAt.first ((w.alloc (.cells #[.int .i64 p.a, .int .u64 (p.b : Int), .int .u32 (p.s : Int)] 26)).alloc (.cells #[.int .i64 q.a, .int .u64 (q.b : Int), .int .u32 (q.s : Int)] 26)) r
  rw [show (w.alloc (.cells #[.int .i64 p.a, .int .u64 (p.b : Int), .int .u32 (p.s : Int)] 26)).heap.size = w.heap.size + 1 from by simp] at Q1
  rw [show ((w.alloc (.cells #[.int .i64 p.a, .int .u64 (p.b : Int), .int .u32 (p.s : Int)] 26)).alloc (.cells #[.int .i64 q.a, .int .u64 (q.b : Int), .int .u32 (q.s : Int)] 26)).heap.size = w.heap.size + 2 from by simp] at R1
  obtain ⟨c0, c1, c2⟩ := P1.cells
  obtain ⟨c3, c4, c5⟩ := Q1.cells
  obtain ⟨c6, c7, c8⟩ := R1.cells
  have P1 := Lib.hid P1
  have Q1 := Lib.hid Q1
  have R1 := Lib.hid R1
  unfold p3V
  go_enter Try.func7, Try.ntmps7
  go_wp2_with fail
  refine (alive_any _).mono ?_
  rintro e w1 ⟨rfl, hb⟩
  clear c0 c1 c2 c3 c4 c5 c6 c7 c8
  have P1 := Lib.hid (P1.out.next hb)
  have Q1 := Lib.hid (Q1.out.next hb)
  have R1 := Lib.hid (R1.out.next hb)
  obtain ⟨c0, c1, c2⟩ := P1.out.cells
  obtain ⟨c3, c4, c5⟩ := Q1.out.cells
  obtain ⟨c6, c7, c8⟩ := R1.out.cells
  have hq := Lib.hid (hq.out.trans (hb.mono hq.out.size))
  go_wp2
  refine inO_region [(0, fun w' => w'.rangeAt (w.heap.size) (0) ([.int .i64 p.a, .int .u64 (p.b : Int), .int .u32 (p.s : Int)])), (1, fun w' => w'.rangeAt (w.heap.size + 1) (0) ([.int .i64 q.a, .int .u64 (q.b : Int), .int .u32 (q.s : Int)])), (4, fun w' => w'.rangeAt (w.heap.size + 1) (0) ([.int .i64 q.a, .int .u64 (q.b : Int), .int .u32 (q.s : Int)])), (5, fun w' => w'.rangeAt (w.heap.size) (0) ([.int .i64 p.a, .int .u64 (p.b : Int), .int .u32 (p.s : Int)])), (9, fun w' => w'.rangeAt (w.heap.size) (0) ([.int .i64 p.a, .int .u64 (p.b : Int), .int .u32 (p.s : Int)])), (10, fun w' => w'.rangeAt (w.heap.size + 1) (0) ([.int .i64 q.a, .int .u64 (q.b : Int), .int .u32 (q.s : Int)])), (19, fun w' => w'.rangeAt (w.heap.size) (0) ([.int .i64 p.a, .int .u64 (p.b : Int), .int .u32 (p.s : Int)])), (20, fun w' => w'.rangeAt (w.heap.size + 1) (0) ([.int .i64 q.a, .int .u64 (q.b : Int), .int .u32 (q.s : Int)]))] (by kernel_rfl) (Owed.cons ((P1.out.drew.range)) (Owed.cons ((Q1.out.drew.range)) (Owed.cons ((Q1.out.drew.range)) (Owed.cons ((P1.out.drew.range)) (Owed.cons ((P1.out.drew.range)) (Owed.cons ((Q1.out.drew.range)) (Owed.cons ((P1.out.drew.range)) (Owed.cons ((Q1.out.drew.range)) (Owed.nil _ _))))))))) ?_
  refine inO_load 0 ⟨_, _, _, _, _, _⟩ (.agg ([.int .i64 p.a, .int .u64 (p.b : Int), .int .u32 (p.s : Int)]).toArray) (fun w' => w'.rangeAt (w.heap.size) (0) ([.int .i64 p.a, .int .u64 (p.b : Int), .int .u32 (p.s : Int)])) rfl (by kernel_rfl) (by kernel_rfl) (by kernel_rfl) (fun _ _ _ h => h) rfl (.head _) (fun ww hw => exec_load_mid _ _ (by rfl) _ _ (by rfl) _ _ hw Try.underlying26 rfl (infoPtr p)) ?_
  simp only [Act.put, List.setIfInBounds_toArray, List.set_cons_zero, List.set_cons_succ]
  refine inO_load 1 ⟨_, _, _, _, _, _⟩ (.agg ([.int .i64 q.a, .int .u64 (q.b : Int), .int .u32 (q.s : Int)]).toArray) (fun w' => w'.rangeAt (w.heap.size + 1) (0) ([.int .i64 q.a, .int .u64 (q.b : Int), .int .u32 (q.s : Int)])) rfl (by kernel_rfl) (by kernel_rfl) (by kernel_rfl) (fun _ _ _ h => h) rfl (.tail _ (.head _)) (fun ww hw => exec_load_mid _ _ (by rfl) _ _ (by rfl) _ _ hw Try.underlying26 rfl (infoPtr q)) ?_
  simp only [Act.put, List.setIfInBounds_toArray, List.set_cons_zero, List.set_cons_succ]
  refine inO_step 2 ⟨_, _, _, _, _, _⟩ rfl (by kernel_rfl) rfl (fun K hK => ?_)
  refine wp_call Try.func12 (by kernel_rfl) rfl _ _ rfl _ rfl _ (C_pq.out _) fun e v1 h => ?_
  obtain ⟨rfl, hb⟩ := h
  refine ⟨_, rfl, ?_⟩
  have hq := Lib.hid (hq.out.drew.trans (hb.mono hq.out.size))
  have P1 := Lib.hid (P1.out.drew.next hb)
  have Q1 := Lib.hid (Q1.out.drew.next hb)
  have R1 := Lib.hid (R1.out.drew.next hb)
  refine hK _ _ (Keeps.cons (fun h j v hv => keepCell hb (h j v hv)) (Keeps.cons (fun h j v hv => keepCell hb (h j v hv)) (Keeps.cons (fun h j v hv => keepCell hb (h j v hv)) (Keeps.cons (fun h j v hv => keepCell hb (h j v hv)) (Keeps.cons (fun h j v hv => keepCell hb (h j v hv)) (Keeps.cons (fun h j v hv => keepCell hb (h j v hv)) (Keeps.cons (fun h j v hv => keepCell hb (h j v hv)) (Keeps.cons (fun h j v hv => keepCell hb (h j v hv)) (Keeps.nil _ _ _))))))))) ?_
  clear hK K
  simp only [Act.put, List.setIfInBounds_toArray, List.set_cons_zero, List.set_cons_succ]
  refine inO_take 3 ⟨_, _, _, _, _, _⟩ (.bool true) rfl (by kernel_rfl) (by kernel_rfl) (by kernel_rfl) (fun _ _ _ h => h) rfl (fun ww => exec_move (by rfl) (by rfl) ww) ?_
  simp only [Act.put, List.setIfInBounds_toArray, List.set_cons_zero, List.set_cons_succ]
  refine inO_load 4 ⟨_, _, _, _, _, _⟩ (.agg ([.int .i64 q.a, .int .u64 (q.b : Int), .int .u32 (q.s : Int)]).toArray) (fun w' => w'.rangeAt (w.heap.size + 1) (0) ([.int .i64 q.a, .int .u64 (q.b : Int), .int .u32 (q.s : Int)])) rfl (by kernel_rfl) (by kernel_rfl) (by kernel_rfl) (fun _ _ _ h => h) rfl (.tail _ (.tail _ (.head _))) (fun ww hw => exec_load_mid _ _ (by rfl) _ _ (by rfl) _ _ hw Try.underlying26 rfl (infoPtr q)) ?_
  simp only [Act.put, List.setIfInBounds_toArray, List.set_cons_zero, List.set_cons_succ]
  refine inO_load 5 ⟨_, _, _, _, _, _⟩ (.agg ([.int .i64 p.a, .int .u64 (p.b : Int), .int .u32 (p.s : Int)]).toArray) (fun w' => w'.rangeAt (w.heap.size) (0) ([.int .i64 p.a, .int .u64 (p.b : Int), .int .u32 (p.s : Int)])) rfl (by kernel_rfl) (by kernel_rfl) (by kernel_rfl) (fun _ _ _ h => h) rfl (.tail _ (.tail _ (.tail _ (.head _)))) (fun ww hw => exec_load_mid _ _ (by rfl) _ _ (by rfl) _ _ hw Try.underlying26 rfl (infoPtr p)) ?_
  simp only [Act.put, List.setIfInBounds_toArray, List.set_cons_zero, List.set_cons_succ]
  refine inO_step 6 ⟨_, _, _, _, _, _⟩ rfl (by kernel_rfl) rfl (fun K hK => ?_)
  refine wp_call Try.func12 (by kernel_rfl) rfl _ _ rfl _ rfl _ (C_qp.out _) fun e v2 h => ?_
  obtain ⟨rfl, hb⟩ := h
  refine ⟨_, rfl, ?_⟩
  have hq := Lib.hid (hq.out.trans (hb.mono hq.out.size))
  have P1 := Lib.hid (P1.out.next hb)
  have Q1 := Lib.hid (Q1.out.next hb)
  have R1 := Lib.hid (R1.out.next hb)
  refine hK _ _ (Keeps.cons (fun h j v hv => keepCell hb (h j v hv)) (Keeps.cons (fun h j v hv => keepCell hb (h j v hv)) (Keeps.cons (fun h j v hv => keepCell hb (h j v hv)) (Keeps.cons (fun h j v hv => keepCell hb (h j v hv)) (Keeps.cons (fun h j v hv => keepCell hb (h j v hv)) (Keeps.cons (fun h j v hv => keepCell hb (h j v hv)) (Keeps.cons (fun h j v hv => keepCell hb (h j v hv)) (Keeps.cons (fun h j v hv => keepCell hb (h j v hv)) (Keeps.nil _ _ _))))))))) ?_
  clear hK K
  simp only [Act.put, List.setIfInBounds_toArray, List.set_cons_zero, List.set_cons_succ]
  refine inO_take 7 ⟨_, _, _, _, _, _⟩ (.bool false) rfl (by kernel_rfl) (by kernel_rfl) (by kernel_rfl) (fun _ _ _ h => h) rfl (fun ww => by go_simp) ?_
  simp only [Act.put, List.setIfInBounds_toArray, List.set_cons_zero, List.set_cons_succ]
  refine inO_take 8 ⟨_, _, _, _, _, _⟩ (.bool false) rfl (by kernel_rfl) (by kernel_rfl) (by kernel_rfl) (fun _ _ _ h => h) rfl (fun ww => exec_move (by rfl) (by rfl) ww) ?_
  simp only [Act.put, List.setIfInBounds_toArray, List.set_cons_zero, List.set_cons_succ]
  refine inO_load 9 ⟨_, _, _, _, _, _⟩ (.agg ([.int .i64 p.a, .int .u64 (p.b : Int), .int .u32 (p.s : Int)]).toArray) (fun w' => w'.rangeAt (w.heap.size) (0) ([.int .i64 p.a, .int .u64 (p.b : Int), .int .u32 (p.s : Int)])) rfl (by kernel_rfl) (by kernel_rfl) (by kernel_rfl) (fun _ _ _ h => h) rfl (.tail _ (.tail _ (.tail _ (.tail _ (.head _))))) (fun ww hw => exec_load_mid _ _ (by rfl) _ _ (by rfl) _ _ hw Try.underlying26 rfl (infoPtr p)) ?_
  simp only [Act.put, List.setIfInBounds_toArray, List.set_cons_zero, List.set_cons_succ]
  refine inO_load 10 ⟨_, _, _, _, _, _⟩ (.agg ([.int .i64 q.a, .int .u64 (q.b : Int), .int .u32 (q.s : Int)]).toArray) (fun w' => w'.rangeAt (w.heap.size + 1) (0) ([.int .i64 q.a, .int .u64 (q.b : Int), .int .u32 (q.s : Int)])) rfl (by kernel_rfl) (by kernel_rfl) (by kernel_rfl) (fun _ _ _ h => h) rfl (.tail _ (.tail _ (.tail _ (.tail _ (.tail _ (.head _)))))) (fun ww hw => exec_load_mid _ _ (by rfl) _ _ (by rfl) _ _ hw Try.underlying26 rfl (infoPtr q)) ?_
  simp only [Act.put, List.setIfInBounds_toArray, List.set_cons_zero, List.set_cons_succ]
  refine inO_load 19 ⟨_, _, _, _, _, _⟩ (.agg ([.int .i64 p.a, .int .u64 (p.b : Int), .int .u32 (p.s : Int)]).toArray) (fun w' => w'.rangeAt (w.heap.size) (0) ([.int .i64 p.a, .int .u64 (p.b : Int), .int .u32 (p.s : Int)])) rfl (by kernel_rfl) (by kernel_rfl) (by kernel_rfl) (fun _ _ _ h => h) rfl (.tail _ (.tail _ (.tail _ (.tail _ (.tail _ (.tail _ (.head _))))))) (fun ww hw => exec_load_mid _ _ (by rfl) _ _ (by rfl) _ _ hw Try.underlying26 rfl (infoPtr p)) ?_
  simp only [Act.put, List.setIfInBounds_toArray, List.set_cons_zero, List.set_cons_succ]
  refine inO_load 20 ⟨_, _, _, _, _, _⟩ (.agg ([.int .i64 q.a, .int .u64 (q.b : Int), .int .u32 (q.s : Int)]).toArray) (fun w' => w'.rangeAt (w.heap.size + 1) (0) ([.int .i64 q.a, .int .u64 (q.b : Int), .int .u32 (q.s : Int)])) rfl (by kernel_rfl) (by kernel_rfl) (by kernel_rfl) (fun _ _ _ h => h) rfl (.tail _ (.tail _ (.tail _ (.tail _ (.tail _ (.tail _ (.tail _ (.head _)))))))) (fun ww hw => exec_load_mid _ _ (by rfl) _ _ (by rfl) _ _ hw Try.underlying26 rfl (infoPtr q)) ?_
  simp only [Act.put, List.setIfInBounds_toArray, List.set_cons_zero, List.set_cons_succ]
  refine inO_take 21 ⟨_, _, _, _, _, _⟩ (.bool false) rfl (by kernel_rfl) (by kernel_rfl) (by kernel_rfl) (fun _ _ _ h => h) rfl (fun ww => by go_simp) ?_
  simp only [Act.put, List.setIfInBounds_toArray, List.set_cons_zero, List.set_cons_succ]
  refine inO_step 11 ⟨_, _, _, _, _, _⟩ rfl (by kernel_rfl) rfl (fun K hK => ?_)
  refine wp_call Try.func12 (by kernel_rfl) rfl _ _ rfl _ rfl _ (C_pq.out _) fun e v3 h => ?_
  obtain ⟨rfl, hb⟩ := h
  refine ⟨_, rfl, ?_⟩
  have hq := Lib.hid (hq.out.trans (hb.mono hq.out.size))
  have P1 := Lib.hid (P1.out.next hb)
  have Q1 := Lib.hid (Q1.out.next hb)
  have R1 := Lib.hid (R1.out.next hb)
  refine hK _ _ (Keeps.cons (fun h j v hv => keepCell hb (h j v hv)) (Keeps.cons (fun h j v hv => keepCell hb (h j v hv)) (Keeps.cons (fun h j v hv => keepCell hb (h j v hv)) (Keeps.cons (fun h j v hv => keepCell hb (h j v hv)) (Keeps.cons (fun h j v hv => keepCell hb (h j v hv)) (Keeps.cons (fun h j v hv => keepCell hb (h j v hv)) (Keeps.cons (fun h j v hv => keepCell hb (h j v hv)) (Keeps.cons (fun h j v hv => keepCell hb (h j v hv)) (Keeps.nil _ _ _))))))))) ?_
  clear hK K
  simp only [Act.put, List.setIfInBounds_toArray, List.set_cons_zero, List.set_cons_succ]
  refine inO_take 12 ⟨_, _, _, _, _, _⟩ (.bool false) rfl (by kernel_rfl) (by kernel_rfl) (by kernel_rfl) (fun _ _ _ h => h) rfl (fun ww => by go_simp) ?_
  simp only [Act.put, List.setIfInBounds_toArray, List.set_cons_zero, List.set_cons_succ]
  refine inO_take 13 ⟨_, _, _, _, _, _⟩ (.bool false) rfl (by kernel_rfl) (by kernel_rfl) (by kernel_rfl) (fun _ _ _ h => h) rfl (fun ww => exec_move (by rfl) (by rfl) ww) ?_
  simp only [Act.put, List.setIfInBounds_toArray, List.set_cons_zero, List.set_cons_succ]
  refine inO_pass 14 ⟨_, _, _, _, _, _⟩ rfl (by kernel_rfl) (by kernel_rfl) (by kernel_rfl) (fun _ _ _ h => h) rfl ?_
  simp only [Act.put, List.setIfInBounds_toArray, List.set_cons_zero, List.set_cons_succ]
  refine inO_pass 15 ⟨_, _, _, _, _, _⟩ rfl (by kernel_rfl) (by kernel_rfl) (by kernel_rfl) (fun _ _ _ h => h) rfl ?_
  simp only [Act.put, List.setIfInBounds_toArray, List.set_cons_zero, List.set_cons_succ]
  refine inO_pass 16 ⟨_, _, _, _, _, _⟩ rfl (by kernel_rfl) (by kernel_rfl) (by kernel_rfl) (fun _ _ _ h => h) rfl ?_
  simp only [Act.put, List.setIfInBounds_toArray, List.set_cons_zero, List.set_cons_succ]
  refine inO_pass 17 ⟨_, _, _, _, _, _⟩ rfl (by kernel_rfl) (by kernel_rfl) (by kernel_rfl) (fun _ _ _ h => h) rfl ?_
  simp only [Act.put, List.setIfInBounds_toArray, List.set_cons_zero, List.set_cons_succ]
  refine inO_take 18 ⟨_, _, _, _, _, _⟩ (.bool false) rfl (by kernel_rfl) (by kernel_rfl) (by kernel_rfl) (fun _ _ _ h => h) rfl (fun ww => by go_simp) ?_
  simp only [Act.put, List.setIfInBounds_toArray, List.set_cons_zero, List.set_cons_succ]
  refine inO_take 22 ⟨_, _, _, _, _, _⟩ (.bool false) rfl (by kernel_rfl) (by kernel_rfl) (by kernel_rfl) (fun _ _ _ h => h) rfl (fun ww => by go_simp) ?_
  simp only [Act.put, List.setIfInBounds_toArray, List.set_cons_zero, List.set_cons_succ]
  refine inO_take 23 ⟨_, _, _, _, _, _⟩ (.bool false) rfl (by kernel_rfl) (by kernel_rfl) (by kernel_rfl) (fun _ _ _ h => h) rfl (fun ww => by go_simp) ?_
  simp only [Act.put, List.setIfInBounds_toArray, List.set_cons_zero, List.set_cons_succ]
  refine inO_done (by kernel_rfl) ?_
  clear c0 c1 c2 c3 c4 c5 c6 c7 c8
  obtain ⟨c0, c1, c2⟩ := P1.out.cells
  obtain ⟨c3, c4, c5⟩ := Q1.out.cells
  obtain ⟨c6, c7, c8⟩ := R1.out.cells
  go_wp2_with fail
  refine (C_pq.out _).mono ?_
  rintro e w3 ⟨rfl, hb⟩
  clear c0 c1 c2 c3 c4 c5 c6 c7 c8
  have P1 := Lib.hid (P1.out.next hb)
  have Q1 := Lib.hid (Q1.out.next hb)
  have R1 := Lib.hid (R1.out.next hb)
  obtain ⟨c0, c1, c2⟩ := P1.out.cells
  obtain ⟨c3, c4, c5⟩ := Q1.out.cells
  obtain ⟨c6, c7, c8⟩ := R1.out.cells
  have hq := Lib.hid (hq.out.trans (hb.mono hq.out.size))
  go_wp2_with fail
  refine (C_qr.out _).mono ?_
  rintro e w4 ⟨rfl, hb⟩
  clear c0 c1 c2 c3 c4 c5 c6 c7 c8
  have P1 := Lib.hid (P1.out.next hb)
  have Q1 := Lib.hid (Q1.out.next hb)
  have R1 := Lib.hid (R1.out.next hb)
  obtain ⟨c0, c1, c2⟩ := P1.out.cells
  obtain ⟨c3, c4, c5⟩ := Q1.out.cells
  obtain ⟨c6, c7, c8⟩ := R1.out.cells
  have hq := Lib.hid (hq.out.trans (hb.mono hq.out.size))
  go_wp2_with fail
  refine (C_pr.out _).mono ?_
  rintro e w5 ⟨rfl, hb⟩
  clear c0 c1 c2 c3 c4 c5 c6 c7 c8
  have P1 := Lib.hid (P1.out.next hb)
  have Q1 := Lib.hid (Q1.out.next hb)
  have R1 := Lib.hid (R1.out.next hb)
  obtain ⟨c0, c1, c2⟩ := P1.out.cells
  obtain ⟨c3, c4, c5⟩ := Q1.out.cells
  obtain ⟨c6, c7, c8⟩ := R1.out.cells
  have hq := Lib.hid (hq.out.trans (hb.mono hq.out.size))
  go_wp2_with fail
  refine (C_si.out _).mono ?_
  rintro e w6 ⟨rfl, hb⟩
  clear c0 c1 c2 c3 c4 c5 c6 c7 c8
  have P1 := Lib.hid (P1.out.next hb)
  have Q1 := Lib.hid (Q1.out.next hb)
  have R1 := Lib.hid (R1.out.next hb)
  obtain ⟨c0, c1, c2⟩ := P1.out.cells
  obtain ⟨c3, c4, c5⟩ := Q1.out.cells
  obtain ⟨c6, c7, c8⟩ := R1.out.cells
  have hq := Lib.hid (hq.out.trans (hb.mono hq.out.size))
  go_wp2
  go_ret
  exact ⟨rfl, hq.out⟩

set_option maxHeartbeats 4000000 in
theorem way_a3 (p q r : P3) (w : World) (hp : p.Fit) (hq0 : q.Fit) (hr0 : r.Fit) (pq : p.lessB q = true) (qp : q.lessB p = false) (eq : p.eqB q = false) (qr : q.lessB r = false) (si : p.sinceB r.b = true) (rp : r.lessB p = true) :
    Calls Try.prog 7 #[p3V p, p3V q, p3V r] w fun e w' => e = .returned (.bool true) ∧ Below w.heap.size w w' := by
  have c_pq : ∀ W, Calls Try.prog 12 #[.agg #[.int .i64 p.a, .int .u64 (p.b : Int), .int .u32 (p.s : Int)], .agg #[.int .i64 q.a, .int .u64 (q.b : Int), .int .u32 (q.s : Int)]] W fun e w' => e = .returned (.bool true) ∧ Below W.heap.size W w' := fun W => by have h := Less_any p.a p.b p.s q.a q.b q.s W hp hq0; rw [show P3.lessB ⟨p.a, p.b, p.s⟩ ⟨q.a, q.b, q.s⟩ = true from pq] at h; exact h
  have C_pq := Lib.hid c_pq
  clear c_pq
  have c_qp : ∀ W, Calls Try.prog 12 #[.agg #[.int .i64 q.a, .int .u64 (q.b : Int), .int .u32 (q.s : Int)], .agg #[.int .i64 p.a, .int .u64 (p.b : Int), .int .u32 (p.s : Int)]] W fun e w' => e = .returned (.bool false) ∧ Below W.heap.size W w' := fun W => by have h := Less_any q.a q.b q.s p.a p.b p.s W hq0 hp; rw [show P3.lessB ⟨q.a, q.b, q.s⟩ ⟨p.a, p.b, p.s⟩ = false from qp] at h; exact h
  have C_qp := Lib.hid c_qp
  clear c_qp
  have c_qr : ∀ W, Calls Try.prog 12 #[.agg #[.int .i64 q.a, .int .u64 (q.b : Int), .int .u32 (q.s : Int)], .agg #[.int .i64 r.a, .int .u64 (r.b : Int), .int .u32 (r.s : Int)]] W fun e w' => e = .returned (.bool false) ∧ Below W.heap.size W w' := fun W => by have h := Less_any q.a q.b q.s r.a r.b r.s W hq0 hr0; rw [show P3.lessB ⟨q.a, q.b, q.s⟩ ⟨r.a, r.b, r.s⟩ = false from qr] at h; exact h
  have C_qr := Lib.hid c_qr
  clear c_qr
  have c_rp : ∀ W, Calls Try.prog 12 #[.agg #[.int .i64 r.a, .int .u64 (r.b : Int), .int .u32 (r.s : Int)], .agg #[.int .i64 p.a, .int .u64 (p.b : Int), .int .u32 (p.s : Int)]] W fun e w' => e = .returned (.bool true) ∧ Below W.heap.size W w' := fun W => by have h := Less_any r.a r.b r.s p.a p.b p.s W hr0 hp; rw [show P3.lessB ⟨r.a, r.b, r.s⟩ ⟨p.a, p.b, p.s⟩ = true from rp] at h; exact h
  have C_rp := Lib.hid c_rp
  clear c_rp
  have c_si : ∀ W, Calls Try.prog 14 #[.agg #[.int .i64 p.a, .int .u64 (p.b : Int), .int .u32 (p.s : Int)], .int .u64 (r.b : Int)] W fun e w' => e = .returned (.bool true) ∧ Below W.heap.size W w' := fun W => by have h := Since_any p.a p.b p.s r.b W hp hr0.2.1; rw [show P3.sinceB ⟨p.a, p.b, p.s⟩ r.b = true from si] at h; exact h
  have C_si := Lib.hid c_si
  clear c_si
  have hE : ∀ W, (Op.equalIn 10000 26 (.agg #[.int .i64 p.a, .int .u64 (p.b : Int), .int .u32 (p.s : Int)]) (.agg #[.int .i64 q.a, .int .u64 (q.b : Int), .int .u32 (q.s : Int)])).run Try.prog W = .ok false W := fun W => by rw [← eq]; exact eqPtr W p q
  clear hp hq0 hr0 eq si pq qp qr rp
  have hq := Lib.hid ((((Below.refl w.heap.size w).alloc (Nat.le_refl _) (.cells #[.int .i64 p.a, .int .u64 (p.b : Int), .int .u32 (p.s : Int)] 26)).alloc (by simp) (.cells #[.int .i64 q.a, .int .u64 (q.b : Int), .int .u32 (q.s : Int)] 26)).alloc (by simp; omega) (.cells #[.int .i64 r.a, .int .u64 (r.b : Int), .int .u32 (r.s : Int)] 26))
  have P1 := ((PtrAt.first w p).alloc (.cells #[.int .i64 q.a, .int .u64 (q.b : Int), .int .u32 (q.s : Int)] 26)).alloc (.cells #[.int .i64 r.a, .int .u64 (r.b : Int), .int .u32 (r.s : Int)] 26)
  have Q1 := (PtrAt.first (w.alloc (.cells #[.int .i64 p.a, .int .u64 (p.b : Int), .int .u32 (p.s : Int)] 26)) q).alloc (.cells #[.int .i64 r.a, .int .u64 (r.b : Int), .int .u32 (r.s : Int)] 26)
  have R1 := PtrAt.first ((w.alloc (.cells #[.int .i64 p.a, .int .u64 (p.b : Int), .int .u32 (p.s : Int)] 26)).alloc (.cells #[.int .i64 q.a, .int .u64 (q.b : Int), .int .u32 (q.s : Int)] 26)) r
  rw [show (w.alloc (.cells #[.int .i64 p.a, .int .u64 (p.b : Int), .int .u32 (p.s : Int)] 26)).heap.size = w.heap.size + 1 from by simp] at Q1
  rw [show ((w.alloc (.cells #[.int .i64 p.a, .int .u64 (p.b : Int), .int .u32 (p.s : Int)] 26)).alloc (.cells #[.int .i64 q.a, .int .u64 (q.b : Int), .int .u32 (q.s : Int)] 26)).heap.size = w.heap.size + 2 from by simp] at R1
  obtain ⟨c0, c1, c2⟩ := P1.cells
  obtain ⟨c3, c4, c5⟩ := Q1.cells
  obtain ⟨c6, c7, c8⟩ := R1.cells
  have P1 := Lib.hid P1
  have Q1 := Lib.hid Q1
  have R1 := Lib.hid R1
  unfold p3V
  go_enter Try.func7, Try.ntmps7
  go_wp2_with fail
  refine (alive_any _).mono ?_
  rintro e w1 ⟨rfl, hb⟩
  clear c0 c1 c2 c3 c4 c5 c6 c7 c8
  have P1 := Lib.hid (P1.out.next hb)
  have Q1 := Lib.hid (Q1.out.next hb)
  have R1 := Lib.hid (R1.out.next hb)
  obtain ⟨c0, c1, c2⟩ := P1.out.cells
  obtain ⟨c3, c4, c5⟩ := Q1.out.cells
  obtain ⟨c6, c7, c8⟩ := R1.out.cells
  have hq := Lib.hid (hq.out.trans (hb.mono hq.out.size))
  go_wp2
  refine inO_region [(0, fun w' => w'.rangeAt (w.heap.size) (0) ([.int .i64 p.a, .int .u64 (p.b : Int), .int .u32 (p.s : Int)])), (1, fun w' => w'.rangeAt (w.heap.size + 1) (0) ([.int .i64 q.a, .int .u64 (q.b : Int), .int .u32 (q.s : Int)])), (4, fun w' => w'.rangeAt (w.heap.size + 1) (0) ([.int .i64 q.a, .int .u64 (q.b : Int), .int .u32 (q.s : Int)])), (5, fun w' => w'.rangeAt (w.heap.size) (0) ([.int .i64 p.a, .int .u64 (p.b : Int), .int .u32 (p.s : Int)])), (9, fun w' => w'.rangeAt (w.heap.size) (0) ([.int .i64 p.a, .int .u64 (p.b : Int), .int .u32 (p.s : Int)])), (10, fun w' => w'.rangeAt (w.heap.size + 1) (0) ([.int .i64 q.a, .int .u64 (q.b : Int), .int .u32 (q.s : Int)])), (19, fun w' => w'.rangeAt (w.heap.size) (0) ([.int .i64 p.a, .int .u64 (p.b : Int), .int .u32 (p.s : Int)])), (20, fun w' => w'.rangeAt (w.heap.size + 1) (0) ([.int .i64 q.a, .int .u64 (q.b : Int), .int .u32 (q.s : Int)]))] (by kernel_rfl) (Owed.cons ((P1.out.drew.range)) (Owed.cons ((Q1.out.drew.range)) (Owed.cons ((Q1.out.drew.range)) (Owed.cons ((P1.out.drew.range)) (Owed.cons ((P1.out.drew.range)) (Owed.cons ((Q1.out.drew.range)) (Owed.cons ((P1.out.drew.range)) (Owed.cons ((Q1.out.drew.range)) (Owed.nil _ _))))))))) ?_
  refine inO_load 0 ⟨_, _, _, _, _, _⟩ (.agg ([.int .i64 p.a, .int .u64 (p.b : Int), .int .u32 (p.s : Int)]).toArray) (fun w' => w'.rangeAt (w.heap.size) (0) ([.int .i64 p.a, .int .u64 (p.b : Int), .int .u32 (p.s : Int)])) rfl (by kernel_rfl) (by kernel_rfl) (by kernel_rfl) (fun _ _ _ h => h) rfl (.head _) (fun ww hw => exec_load_mid _ _ (by rfl) _ _ (by rfl) _ _ hw Try.underlying26 rfl (infoPtr p)) ?_
  simp only [Act.put, List.setIfInBounds_toArray, List.set_cons_zero, List.set_cons_succ]
  refine inO_load 1 ⟨_, _, _, _, _, _⟩ (.agg ([.int .i64 q.a, .int .u64 (q.b : Int), .int .u32 (q.s : Int)]).toArray) (fun w' => w'.rangeAt (w.heap.size + 1) (0) ([.int .i64 q.a, .int .u64 (q.b : Int), .int .u32 (q.s : Int)])) rfl (by kernel_rfl) (by kernel_rfl) (by kernel_rfl) (fun _ _ _ h => h) rfl (.tail _ (.head _)) (fun ww hw => exec_load_mid _ _ (by rfl) _ _ (by rfl) _ _ hw Try.underlying26 rfl (infoPtr q)) ?_
  simp only [Act.put, List.setIfInBounds_toArray, List.set_cons_zero, List.set_cons_succ]
  refine inO_step 2 ⟨_, _, _, _, _, _⟩ rfl (by kernel_rfl) rfl (fun K hK => ?_)
  refine wp_call Try.func12 (by kernel_rfl) rfl _ _ rfl _ rfl _ (C_pq.out _) fun e v1 h => ?_
  obtain ⟨rfl, hb⟩ := h
  refine ⟨_, rfl, ?_⟩
  have hq := Lib.hid (hq.out.drew.trans (hb.mono hq.out.size))
  have P1 := Lib.hid (P1.out.drew.next hb)
  have Q1 := Lib.hid (Q1.out.drew.next hb)
  have R1 := Lib.hid (R1.out.drew.next hb)
  refine hK _ _ (Keeps.cons (fun h j v hv => keepCell hb (h j v hv)) (Keeps.cons (fun h j v hv => keepCell hb (h j v hv)) (Keeps.cons (fun h j v hv => keepCell hb (h j v hv)) (Keeps.cons (fun h j v hv => keepCell hb (h j v hv)) (Keeps.cons (fun h j v hv => keepCell hb (h j v hv)) (Keeps.cons (fun h j v hv => keepCell hb (h j v hv)) (Keeps.cons (fun h j v hv => keepCell hb (h j v hv)) (Keeps.cons (fun h j v hv => keepCell hb (h j v hv)) (Keeps.nil _ _ _))))))))) ?_
  clear hK K
  simp only [Act.put, List.setIfInBounds_toArray, List.set_cons_zero, List.set_cons_succ]
  refine inO_take 3 ⟨_, _, _, _, _, _⟩ (.bool true) rfl (by kernel_rfl) (by kernel_rfl) (by kernel_rfl) (fun _ _ _ h => h) rfl (fun ww => exec_move (by rfl) (by rfl) ww) ?_
  simp only [Act.put, List.setIfInBounds_toArray, List.set_cons_zero, List.set_cons_succ]
  refine inO_load 4 ⟨_, _, _, _, _, _⟩ (.agg ([.int .i64 q.a, .int .u64 (q.b : Int), .int .u32 (q.s : Int)]).toArray) (fun w' => w'.rangeAt (w.heap.size + 1) (0) ([.int .i64 q.a, .int .u64 (q.b : Int), .int .u32 (q.s : Int)])) rfl (by kernel_rfl) (by kernel_rfl) (by kernel_rfl) (fun _ _ _ h => h) rfl (.tail _ (.tail _ (.head _))) (fun ww hw => exec_load_mid _ _ (by rfl) _ _ (by rfl) _ _ hw Try.underlying26 rfl (infoPtr q)) ?_
  simp only [Act.put, List.setIfInBounds_toArray, List.set_cons_zero, List.set_cons_succ]
  refine inO_load 5 ⟨_, _, _, _, _, _⟩ (.agg ([.int .i64 p.a, .int .u64 (p.b : Int), .int .u32 (p.s : Int)]).toArray) (fun w' => w'.rangeAt (w.heap.size) (0) ([.int .i64 p.a, .int .u64 (p.b : Int), .int .u32 (p.s : Int)])) rfl (by kernel_rfl) (by kernel_rfl) (by kernel_rfl) (fun _ _ _ h => h) rfl (.tail _ (.tail _ (.tail _ (.head _)))) (fun ww hw => exec_load_mid _ _ (by rfl) _ _ (by rfl) _ _ hw Try.underlying26 rfl (infoPtr p)) ?_
  simp only [Act.put, List.setIfInBounds_toArray, List.set_cons_zero, List.set_cons_succ]
  refine inO_step 6 ⟨_, _, _, _, _, _⟩ rfl (by kernel_rfl) rfl (fun K hK => ?_)
  refine wp_call Try.func12 (by kernel_rfl) rfl _ _ rfl _ rfl _ (C_qp.out _) fun e v2 h => ?_
  obtain ⟨rfl, hb⟩ := h
  refine ⟨_, rfl, ?_⟩
  have hq := Lib.hid (hq.out.trans (hb.mono hq.out.size))
  have P1 := Lib.hid (P1.out.next hb)
  have Q1 := Lib.hid (Q1.out.next hb)
  have R1 := Lib.hid (R1.out.next hb)
  refine hK _ _ (Keeps.cons (fun h j v hv => keepCell hb (h j v hv)) (Keeps.cons (fun h j v hv => keepCell hb (h j v hv)) (Keeps.cons (fun h j v hv => keepCell hb (h j v hv)) (Keeps.cons (fun h j v hv => keepCell hb (h j v hv)) (Keeps.cons (fun h j v hv => keepCell hb (h j v hv)) (Keeps.cons (fun h j v hv => keepCell hb (h j v hv)) (Keeps.cons (fun h j v hv => keepCell hb (h j v hv)) (Keeps.cons (fun h j v hv => keepCell hb (h j v hv)) (Keeps.nil _ _ _))))))))) ?_
  clear hK K
  simp only [Act.put, List.setIfInBounds_toArray, List.set_cons_zero, List.set_cons_succ]
  refine inO_take 7 ⟨_, _, _, _, _, _⟩ (.bool false) rfl (by kernel_rfl) (by kernel_rfl) (by kernel_rfl) (fun _ _ _ h => h) rfl (fun ww => by go_simp) ?_
  simp only [Act.put, List.setIfInBounds_toArray, List.set_cons_zero, List.set_cons_succ]
  refine inO_take 8 ⟨_, _, _, _, _, _⟩ (.bool false) rfl (by kernel_rfl) (by kernel_rfl) (by kernel_rfl) (fun _ _ _ h => h) rfl (fun ww => exec_move (by rfl) (by rfl) ww) ?_
  simp only [Act.put, List.setIfInBounds_toArray, List.set_cons_zero, List.set_cons_succ]
  refine inO_load 9 ⟨_, _, _, _, _, _⟩ (.agg ([.int .i64 p.a, .int .u64 (p.b : Int), .int .u32 (p.s : Int)]).toArray) (fun w' => w'.rangeAt (w.heap.size) (0) ([.int .i64 p.a, .int .u64 (p.b : Int), .int .u32 (p.s : Int)])) rfl (by kernel_rfl) (by kernel_rfl) (by kernel_rfl) (fun _ _ _ h => h) rfl (.tail _ (.tail _ (.tail _ (.tail _ (.head _))))) (fun ww hw => exec_load_mid _ _ (by rfl) _ _ (by rfl) _ _ hw Try.underlying26 rfl (infoPtr p)) ?_
  simp only [Act.put, List.setIfInBounds_toArray, List.set_cons_zero, List.set_cons_succ]
  refine inO_load 10 ⟨_, _, _, _, _, _⟩ (.agg ([.int .i64 q.a, .int .u64 (q.b : Int), .int .u32 (q.s : Int)]).toArray) (fun w' => w'.rangeAt (w.heap.size + 1) (0) ([.int .i64 q.a, .int .u64 (q.b : Int), .int .u32 (q.s : Int)])) rfl (by kernel_rfl) (by kernel_rfl) (by kernel_rfl) (fun _ _ _ h => h) rfl (.tail _ (.tail _ (.tail _ (.tail _ (.tail _ (.head _)))))) (fun ww hw => exec_load_mid _ _ (by rfl) _ _ (by rfl) _ _ hw Try.underlying26 rfl (infoPtr q)) ?_
  simp only [Act.put, List.setIfInBounds_toArray, List.set_cons_zero, List.set_cons_succ]
  refine inO_load 19 ⟨_, _, _, _, _, _⟩ (.agg ([.int .i64 p.a, .int .u64 (p.b : Int), .int .u32 (p.s : Int)]).toArray) (fun w' => w'.rangeAt (w.heap.size) (0) ([.int .i64 p.a, .int .u64 (p.b : Int), .int .u32 (p.s : Int)])) rfl (by kernel_rfl) (by kernel_rfl) (by kernel_rfl) (fun _ _ _ h => h) rfl (.tail _ (.tail _ (.tail _ (.tail _ (.tail _ (.tail _ (.head _))))))) (fun ww hw => exec_load_mid _ _ (by rfl) _ _ (by rfl) _ _ hw Try.underlying26 rfl (infoPtr p)) ?_
  simp only [Act.put, List.setIfInBounds_toArray, List.set_cons_zero, List.set_cons_succ]
  refine inO_load 20 ⟨_, _, _, _, _, _⟩ (.agg ([.int .i64 q.a, .int .u64 (q.b : Int), .int .u32 (q.s : Int)]).toArray) (fun w' => w'.rangeAt (w.heap.size + 1) (0) ([.int .i64 q.a, .int .u64 (q.b : Int), .int .u32 (q.s : Int)])) rfl (by kernel_rfl) (by kernel_rfl) (by kernel_rfl) (fun _ _ _ h => h) rfl (.tail _ (.tail _ (.tail _ (.tail _ (.tail _ (.tail _ (.tail _ (.head _)))))))) (fun ww hw => exec_load_mid _ _ (by rfl) _ _ (by rfl) _ _ hw Try.underlying26 rfl (infoPtr q)) ?_
  simp only [Act.put, List.setIfInBounds_toArray, List.set_cons_zero, List.set_cons_succ]
  refine inO_take 21 ⟨_, _, _, _, _, _⟩ (.bool false) rfl (by kernel_rfl) (by kernel_rfl) (by kernel_rfl) (fun _ _ _ h => h) rfl (fun ww => by go_simp) ?_
  simp only [Act.put, List.setIfInBounds_toArray, List.set_cons_zero, List.set_cons_succ]
  refine inO_step 11 ⟨_, _, _, _, _, _⟩ rfl (by kernel_rfl) rfl (fun K hK => ?_)
  refine wp_call Try.func12 (by kernel_rfl) rfl _ _ rfl _ rfl _ (C_pq.out _) fun e v3 h => ?_
  obtain ⟨rfl, hb⟩ := h
  refine ⟨_, rfl, ?_⟩
  have hq := Lib.hid (hq.out.trans (hb.mono hq.out.size))
  have P1 := Lib.hid (P1.out.next hb)
  have Q1 := Lib.hid (Q1.out.next hb)
  have R1 := Lib.hid (R1.out.next hb)
  refine hK _ _ (Keeps.cons (fun h j v hv => keepCell hb (h j v hv)) (Keeps.cons (fun h j v hv => keepCell hb (h j v hv)) (Keeps.cons (fun h j v hv => keepCell hb (h j v hv)) (Keeps.cons (fun h j v hv => keepCell hb (h j v hv)) (Keeps.cons (fun h j v hv => keepCell hb (h j v hv)) (Keeps.cons (fun h j v hv => keepCell hb (h j v hv)) (Keeps.cons (fun h j v hv => keepCell hb (h j v hv)) (Keeps.cons (fun h j v hv => keepCell hb (h j v hv)) (Keeps.nil _ _ _))))))))) ?_
  clear hK K
  simp only [Act.put, List.setIfInBounds_toArray, List.set_cons_zero, List.set_cons_succ]
  refine inO_take 12 ⟨_, _, _, _, _, _⟩ (.bool false) rfl (by kernel_rfl) (by kernel_rfl) (by kernel_rfl) (fun _ _ _ h => h) rfl (fun ww => by go_simp) ?_
  simp only [Act.put, List.setIfInBounds_toArray, List.set_cons_zero, List.set_cons_succ]
  refine inO_take 13 ⟨_, _, _, _, _, _⟩ (.bool false) rfl (by kernel_rfl) (by kernel_rfl) (by kernel_rfl) (fun _ _ _ h => h) rfl (fun ww => exec_move (by rfl) (by rfl) ww) ?_
  simp only [Act.put, List.setIfInBounds_toArray, List.set_cons_zero, List.set_cons_succ]
  refine inO_pass 14 ⟨_, _, _, _, _, _⟩ rfl (by kernel_rfl) (by kernel_rfl) (by kernel_rfl) (fun _ _ _ h => h) rfl ?_
  simp only [Act.put, List.setIfInBounds_toArray, List.set_cons_zero, List.set_cons_succ]
  refine inO_pass 15 ⟨_, _, _, _, _, _⟩ rfl (by kernel_rfl) (by kernel_rfl) (by kernel_rfl) (fun _ _ _ h => h) rfl ?_
  simp only [Act.put, List.setIfInBounds_toArray, List.set_cons_zero, List.set_cons_succ]
  refine inO_pass 16 ⟨_, _, _, _, _, _⟩ rfl (by kernel_rfl) (by kernel_rfl) (by kernel_rfl) (fun _ _ _ h => h) rfl ?_
  simp only [Act.put, List.setIfInBounds_toArray, List.set_cons_zero, List.set_cons_succ]
  refine inO_pass 17 ⟨_, _, _, _, _, _⟩ rfl (by kernel_rfl) (by kernel_rfl) (by kernel_rfl) (fun _ _ _ h => h) rfl ?_
  simp only [Act.put, List.setIfInBounds_toArray, List.set_cons_zero, List.set_cons_succ]
  refine inO_take 18 ⟨_, _, _, _, _, _⟩ (.bool false) rfl (by kernel_rfl) (by kernel_rfl) (by kernel_rfl) (fun _ _ _ h => h) rfl (fun ww => by go_simp) ?_
  simp only [Act.put, List.setIfInBounds_toArray, List.set_cons_zero, List.set_cons_succ]
  refine inO_take 22 ⟨_, _, _, _, _, _⟩ (.bool false) rfl (by kernel_rfl) (by kernel_rfl) (by kernel_rfl) (fun _ _ _ h => h) rfl (fun ww => by go_simp) ?_
  simp only [Act.put, List.setIfInBounds_toArray, List.set_cons_zero, List.set_cons_succ]
  refine inO_take 23 ⟨_, _, _, _, _, _⟩ (.bool false) rfl (by kernel_rfl) (by kernel_rfl) (by kernel_rfl) (fun _ _ _ h => h) rfl (fun ww => by go_simp) ?_
  simp only [Act.put, List.setIfInBounds_toArray, List.set_cons_zero, List.set_cons_succ]
  refine inO_done (by kernel_rfl) ?_
  clear c0 c1 c2 c3 c4 c5 c6 c7 c8
  obtain ⟨c0, c1, c2⟩ := P1.out.cells
  obtain ⟨c3, c4, c5⟩ := Q1.out.cells
  obtain ⟨c6, c7, c8⟩ := R1.out.cells
  go_wp2_with fail
  refine (C_pq.out _).mono ?_
  rintro e w3 ⟨rfl, hb⟩
  clear c0 c1 c2 c3 c4 c5 c6 c7 c8
  have P1 := Lib.hid (P1.out.next hb)
  have Q1 := Lib.hid (Q1.out.next hb)
  have R1 := Lib.hid (R1.out.next hb)
  obtain ⟨c0, c1, c2⟩ := P1.out.cells
  obtain ⟨c3, c4, c5⟩ := Q1.out.cells
  obtain ⟨c6, c7, c8⟩ := R1.out.cells
  have hq := Lib.hid (hq.out.trans (hb.mono hq.out.size))
  go_wp2_with fail
  refine (C_qr.out _).mono ?_
  rintro e w4 ⟨rfl, hb⟩
  clear c0 c1 c2 c3 c4 c5 c6 c7 c8
  have P1 := Lib.hid (P1.out.next hb)
  have Q1 := Lib.hid (Q1.out.next hb)
  have R1 := Lib.hid (R1.out.next hb)
  obtain ⟨c0, c1, c2⟩ := P1.out.cells
  obtain ⟨c3, c4, c5⟩ := Q1.out.cells
  obtain ⟨c6, c7, c8⟩ := R1.out.cells
  have hq := Lib.hid (hq.out.trans (hb.mono hq.out.size))
  go_wp2_with fail
  refine (C_si.out _).mono ?_
  rintro e w6 ⟨rfl, hb⟩
  clear c0 c1 c2 c3 c4 c5 c6 c7 c8
  have P1 := Lib.hid (P1.out.next hb)
  have Q1 := Lib.hid (Q1.out.next hb)
  have R1 := Lib.hid (R1.out.next hb)
  obtain ⟨c0, c1, c2⟩ := P1.out.cells
  obtain ⟨c3, c4, c5⟩ := Q1.out.cells
  obtain ⟨c6, c7, c8⟩ := R1.out.cells
  have hq := Lib.hid (hq.out.trans (hb.mono hq.out.size))
  go_wp2_with fail
  refine (C_rp.out _).mono ?_
  rintro e w7 ⟨rfl, hb⟩
  clear c0 c1 c2 c3 c4 c5 c6 c7 c8
  have P1 := Lib.hid (P1.out.next hb)
  have Q1 := Lib.hid (Q1.out.next hb)
  have R1 := Lib.hid (R1.out.next hb)
  obtain ⟨c0, c1, c2⟩ := P1.out.cells
  obtain ⟨c3, c4, c5⟩ := Q1.out.cells
  obtain ⟨c6, c7, c8⟩ := R1.out.cells
  have hq := Lib.hid (hq.out.trans (hb.mono hq.out.size))
  go_wp2
  go_ret
  exact ⟨rfl, hq.out⟩

set_option maxHeartbeats 4000000 in
theorem way_a4 (p q r : P3) (w : World) (hp : p.Fit) (hq0 : q.Fit) (hr0 : r.Fit) (pq : p.lessB q = true) (qp : q.lessB p = false) (eq : p.eqB q = false) (qr : q.lessB r = false) (si : p.sinceB r.b = false) :
    Calls Try.prog 7 #[p3V p, p3V q, p3V r] w fun e w' => e = .returned (.bool true) ∧ Below w.heap.size w w' := by
  have c_pq : ∀ W, Calls Try.prog 12 #[.agg #[.int .i64 p.a, .int .u64 (p.b : Int), .int .u32 (p.s : Int)], .agg #[.int .i64 q.a, .int .u64 (q.b : Int), .int .u32 (q.s : Int)]] W fun e w' => e = .returned (.bool true) ∧ Below W.heap.size W w' := fun W => by have h := Less_any p.a p.b p.s q.a q.b q.s W hp hq0; rw [show P3.lessB ⟨p.a, p.b, p.s⟩ ⟨q.a, q.b, q.s⟩ = true from pq] at h; exact h
  have C_pq := Lib.hid c_pq
  clear c_pq
  have c_qp : ∀ W, Calls Try.prog 12 #[.agg #[.int .i64 q.a, .int .u64 (q.b : Int), .int .u32 (q.s : Int)], .agg #[.int .i64 p.a, .int .u64 (p.b : Int), .int .u32 (p.s : Int)]] W fun e w' => e = .returned (.bool false) ∧ Below W.heap.size W w' := fun W => by have h := Less_any q.a q.b q.s p.a p.b p.s W hq0 hp; rw [show P3.lessB ⟨q.a, q.b, q.s⟩ ⟨p.a, p.b, p.s⟩ = false from qp] at h; exact h
  have C_qp := Lib.hid c_qp
  clear c_qp
  have c_qr : ∀ W, Calls Try.prog 12 #[.agg #[.int .i64 q.a, .int .u64 (q.b : Int), .int .u32 (q.s : Int)], .agg #[.int .i64 r.a, .int .u64 (r.b : Int), .int .u32 (r.s : Int)]] W fun e w' => e = .returned (.bool false) ∧ Below W.heap.size W w' := fun W => by have h := Less_any q.a q.b q.s r.a r.b r.s W hq0 hr0; rw [show P3.lessB ⟨q.a, q.b, q.s⟩ ⟨r.a, r.b, r.s⟩ = false from qr] at h; exact h
  have C_qr := Lib.hid c_qr
  clear c_qr
  have c_si : ∀ W, Calls Try.prog 14 #[.agg #[.int .i64 p.a, .int .u64 (p.b : Int), .int .u32 (p.s : Int)], .int .u64 (r.b : Int)] W fun e w' => e = .returned (.bool false) ∧ Below W.heap.size W w' := fun W => by have h := Since_any p.a p.b p.s r.b W hp hr0.2.1; rw [show P3.sinceB ⟨p.a, p.b, p.s⟩ r.b = false from si] at h; exact h
  have C_si := Lib.hid c_si
  clear c_si
  have hE : ∀ W, (Op.equalIn 10000 26 (.agg #[.int .i64 p.a, .int .u64 (p.b : Int), .int .u32 (p.s : Int)]) (.agg #[.int .i64 q.a, .int .u64 (q.b : Int), .int .u32 (q.s : Int)])).run Try.prog W = .ok false W := fun W => by rw [← eq]; exact eqPtr W p q
  clear hp hq0 hr0 eq si pq qp qr
  have hq := Lib.hid ((((Below.refl w.heap.size w).alloc (Nat.le_refl _) (.cells #[.int .i64 p.a, .int .u64 (p.b : Int), .int .u32 (p.s : Int)] 26)).alloc (by simp) (.cells #[.int .i64 q.a, .int .u64 (q.b : Int), .int .u32 (q.s : Int)] 26)).alloc (by simp; omega) (.cells #[.int .i64 r.a, .int .u64 (r.b : Int), .int .u32 (r.s : Int)] 26))
  have P1 := ((PtrAt.first w p).alloc (.cells #[.int .i64 q.a, .int .u64 (q.b : Int), .int .u32 (q.s : Int)] 26)).alloc (.cells #[.int .i64 r.a, .int .u64 (r.b : Int), .int .u32 (r.s : Int)] 26)
  have Q1 := (PtrAt.first (w.alloc (.cells #[.int .i64 p.a, .int .u64 (p.b : Int), .int .u32 (p.s : Int)] 26)) q).alloc (.cells #[.int .i64 r.a, .int .u64 (r.b : Int), .int .u32 (r.s : Int)] 26)
  have R1 := PtrAt.first ((w.alloc (.cells #[.int .i64 p.a, .int .u64 (p.b : Int), .int .u32 (p.s : Int)] 26)).alloc (.cells #[.int .i64 q.a, .int .u64 (q.b : Int), .int .u32 (q.s : Int)] 26)) r
  rw [show (w.alloc (.cells #[.int .i64 p.a, .int .u64 (p.b : Int), .int .u32 (p.s : Int)] 26)).heap.size = w.heap.size + 1 from by simp] at Q1
  rw [show ((w.alloc (.cells #[.int .i64 p.a, .int .u64 (p.b : Int), .int .u32 (p.s : Int)] 26)).alloc (.cells #[.int .i64 q.a, .int .u64 (q.b : Int), .int .u32 (q.s : Int)] 26)).heap.size = w.heap.size + 2 from by simp] at R1
  obtain ⟨c0, c1, c2⟩ := P1.cells
  obtain ⟨c3, c4, c5⟩ := Q1.cells
  obtain ⟨c6, c7, c8⟩ := R1.cells
  have P1 := Lib.hid P1
  have Q1 := Lib.hid Q1
  have R1 := Lib.hid R1
  unfold p3V
  go_enter Try.func7, Try.ntmps7
  go_wp2_with fail
  refine (alive_any _).mono ?_
  rintro e w1 ⟨rfl, hb⟩
  clear c0 c1 c2 c3 c4 c5 c6 c7 c8
  have P1 := Lib.hid (P1.out.next hb)
  have Q1 := Lib.hid (Q1.out.next hb)
  have R1 := Lib.hid (R1.out.next hb)
  obtain ⟨c0, c1, c2⟩ := P1.out.cells
  obtain ⟨c3, c4, c5⟩ := Q1.out.cells
  obtain ⟨c6, c7, c8⟩ := R1.out.cells
  have hq := Lib.hid (hq.out.trans (hb.mono hq.out.size))
  go_wp2
  refine inO_region [(0, fun w' => w'.rangeAt (w.heap.size) (0) ([.int .i64 p.a, .int .u64 (p.b : Int), .int .u32 (p.s : Int)])), (1, fun w' => w'.rangeAt (w.heap.size + 1) (0) ([.int .i64 q.a, .int .u64 (q.b : Int), .int .u32 (q.s : Int)])), (4, fun w' => w'.rangeAt (w.heap.size + 1) (0) ([.int .i64 q.a, .int .u64 (q.b : Int), .int .u32 (q.s : Int)])), (5, fun w' => w'.rangeAt (w.heap.size) (0) ([.int .i64 p.a, .int .u64 (p.b : Int), .int .u32 (p.s : Int)])), (9, fun w' => w'.rangeAt (w.heap.size) (0) ([.int .i64 p.a, .int .u64 (p.b : Int), .int .u32 (p.s : Int)])), (10, fun w' => w'.rangeAt (w.heap.size + 1) (0) ([.int .i64 q.a, .int .u64 (q.b : Int), .int .u32 (q.s : Int)])), (19, fun w' => w'.rangeAt (w.heap.size) (0) ([.int .i64 p.a, .int .u64 (p.b : Int), .int .u32 (p.s : Int)])), (20, fun w' => w'.rangeAt (w.heap.size + 1) (0) ([.int .i64 q.a, .int .u64 (q.b : Int), .int .u32 (q.s : Int)]))] (by kernel_rfl) (Owed.cons ((P1.out.drew.range)) (Owed.cons ((Q1.out.drew.range)) (Owed.cons ((Q1.out.drew.range)) (Owed.cons ((P1.out.drew.range)) (Owed.cons ((P1.out.drew.range)) (Owed.cons ((Q1.out.drew.range)) (Owed.cons ((P1.out.drew.range)) (Owed.cons ((Q1.out.drew.range)) (Owed.nil _ _))))))))) ?_
  refine inO_load 0 ⟨_, _, _, _, _, _⟩ (.agg ([.int .i64 p.a, .int .u64 (p.b : Int), .int .u32 (p.s : Int)]).toArray) (fun w' => w'.rangeAt (w.heap.size) (0) ([.int .i64 p.a, .int .u64 (p.b : Int), .int .u32 (p.s : Int)])) rfl (by kernel_rfl) (by kernel_rfl) (by kernel_rfl) (fun _ _ _ h => h) rfl (.head _) (fun ww hw => exec_load_mid _ _ (by rfl) _ _ (by rfl) _ _ hw Try.underlying26 rfl (infoPtr p)) ?_
  simp only [Act.put, List.setIfInBounds_toArray, List.set_cons_zero, List.set_cons_succ]
  refine inO_load 1 ⟨_, _, _, _, _, _⟩ (.agg ([.int .i64 q.a, .int .u64 (q.b : Int), .int .u32 (q.s : Int)]).toArray) (fun w' => w'.rangeAt (w.heap.size + 1) (0) ([.int .i64 q.a, .int .u64 (q.b : Int), .int .u32 (q.s : Int)])) rfl (by kernel_rfl) (by kernel_rfl) (by kernel_rfl) (fun _ _ _ h => h) rfl (.tail _ (.head _)) (fun ww hw => exec_load_mid _ _ (by rfl) _ _ (by rfl) _ _ hw Try.underlying26 rfl (infoPtr q)) ?_
  simp only [Act.put, List.setIfInBounds_toArray, List.set_cons_zero, List.set_cons_succ]
  refine inO_step 2 ⟨_, _, _, _, _, _⟩ rfl (by kernel_rfl) rfl (fun K hK => ?_)
  refine wp_call Try.func12 (by kernel_rfl) rfl _ _ rfl _ rfl _ (C_pq.out _) fun e v1 h => ?_
  obtain ⟨rfl, hb⟩ := h
  refine ⟨_, rfl, ?_⟩
  have hq := Lib.hid (hq.out.drew.trans (hb.mono hq.out.size))
  have P1 := Lib.hid (P1.out.drew.next hb)
  have Q1 := Lib.hid (Q1.out.drew.next hb)
  have R1 := Lib.hid (R1.out.drew.next hb)
  refine hK _ _ (Keeps.cons (fun h j v hv => keepCell hb (h j v hv)) (Keeps.cons (fun h j v hv => keepCell hb (h j v hv)) (Keeps.cons (fun h j v hv => keepCell hb (h j v hv)) (Keeps.cons (fun h j v hv => keepCell hb (h j v hv)) (Keeps.cons (fun h j v hv => keepCell hb (h j v hv)) (Keeps.cons (fun h j v hv => keepCell hb (h j v hv)) (Keeps.cons (fun h j v hv => keepCell hb (h j v hv)) (Keeps.cons (fun h j v hv => keepCell hb (h j v hv)) (Keeps.nil _ _ _))))))))) ?_
  clear hK K
  simp only [Act.put, List.setIfInBounds_toArray, List.set_cons_zero, List.set_cons_succ]
  refine inO_take 3 ⟨_, _, _, _, _, _⟩ (.bool true) rfl (by kernel_rfl) (by kernel_rfl) (by kernel_rfl) (fun _ _ _ h => h) rfl (fun ww => exec_move (by rfl) (by rfl) ww) ?_
  simp only [Act.put, List.setIfInBounds_toArray, List.set_cons_zero, List.set_cons_succ]
  refine inO_load 4 ⟨_, _, _, _, _, _⟩ (.agg ([.int .i64 q.a, .int .u64 (q.b : Int), .int .u32 (q.s : Int)]).toArray) (fun w' => w'.rangeAt (w.heap.size + 1) (0) ([.int .i64 q.a, .int .u64 (q.b : Int), .int .u32 (q.s : Int)])) rfl (by kernel_rfl) (by kernel_rfl) (by kernel_rfl) (fun _ _ _ h => h) rfl (.tail _ (.tail _ (.head _))) (fun ww hw => exec_load_mid _ _ (by rfl) _ _ (by rfl) _ _ hw Try.underlying26 rfl (infoPtr q)) ?_
  simp only [Act.put, List.setIfInBounds_toArray, List.set_cons_zero, List.set_cons_succ]
  refine inO_load 5 ⟨_, _, _, _, _, _⟩ (.agg ([.int .i64 p.a, .int .u64 (p.b : Int), .int .u32 (p.s : Int)]).toArray) (fun w' => w'.rangeAt (w.heap.size) (0) ([.int .i64 p.a, .int .u64 (p.b : Int), .int .u32 (p.s : Int)])) rfl (by kernel_rfl) (by kernel_rfl) (by kernel_rfl) (fun _ _ _ h => h) rfl (.tail _ (.tail _ (.tail _ (.head _)))) (fun ww hw => exec_load_mid _ _ (by rfl) _ _ (by rfl) _ _ hw Try.underlying26 rfl (infoPtr p)) ?_
  simp only [Act.put, List.setIfInBounds_toArray, List.set_cons_zero, List.set_cons_succ]
  refine inO_step 6 ⟨_, _, _, _, _, _⟩ rfl (by kernel_rfl) rfl (fun K hK => ?_)
  refine wp_call Try.func12 (by kernel_rfl) rfl _ _ rfl _ rfl _ (C_qp.out _) fun e v2 h => ?_
  obtain ⟨rfl, hb⟩ := h
  refine ⟨_, rfl, ?_⟩
  have hq := Lib.hid (hq.out.trans (hb.mono hq.out.size))
  have P1 := Lib.hid (P1.out.next hb)
  have Q1 := Lib.hid (Q1.out.next hb)
  have R1 := Lib.hid (R1.out.next hb)
  refine hK _ _ (Keeps.cons (fun h j v hv => keepCell hb (h j v hv)) (Keeps.cons (fun h j v hv => keepCell hb (h j v hv)) (Keeps.cons (fun h j v hv => keepCell hb (h j v hv)) (Keeps.cons (fun h j v hv => keepCell hb (h j v hv)) (Keeps.cons (fun h j v hv => keepCell hb (h j v hv)) (Keeps.cons (fun h j v hv => keepCell hb (h j v hv)) (Keeps.cons (fun h j v hv => keepCell hb (h j v hv)) (Keeps.cons (fun h j v hv => keepCell hb (h j v hv)) (Keeps.nil _ _ _))))))))) ?_
  clear hK K
  simp only [Act.put, List.setIfInBounds_toArray, List.set_cons_zero, List.set_cons_succ]
  refine inO_take 7 ⟨_, _, _, _, _, _⟩ (.bool false) rfl (by kernel_rfl) (by kernel_rfl) (by kernel_rfl) (fun _ _ _ h => h) rfl (fun ww => by go_simp) ?_
  simp only [Act.put, List.setIfInBounds_toArray, List.set_cons_zero, List.set_cons_succ]
  refine inO_take 8 ⟨_, _, _, _, _, _⟩ (.bool false) rfl (by kernel_rfl) (by kernel_rfl) (by kernel_rfl) (fun _ _ _ h => h) rfl (fun ww => exec_move (by rfl) (by rfl) ww) ?_
  simp only [Act.put, List.setIfInBounds_toArray, List.set_cons_zero, List.set_cons_succ]
  refine inO_load 9 ⟨_, _, _, _, _, _⟩ (.agg ([.int .i64 p.a, .int .u64 (p.b : Int), .int .u32 (p.s : Int)]).toArray) (fun w' => w'.rangeAt (w.heap.size) (0) ([.int .i64 p.a, .int .u64 (p.b : Int), .int .u32 (p.s : Int)])) rfl (by kernel_rfl) (by kernel_rfl) (by kernel_rfl) (fun _ _ _ h => h) rfl (.tail _ (.tail _ (.tail _ (.tail _ (.head _))))) (fun ww hw => exec_load_mid _ _ (by rfl) _ _ (by rfl) _ _ hw Try.underlying26 rfl (infoPtr p)) ?_
  simp only [Act.put, List.setIfInBounds_toArray, List.set_cons_zero, List.set_cons_succ]
  refine inO_load 10 ⟨_, _, _, _, _, _⟩ (.agg ([.int .i64 q.a, .int .u64 (q.b : Int), .int .u32 (q.s : Int)]).toArray) (fun w' => w'.rangeAt (w.heap.size + 1) (0) ([.int .i64 q.a, .int .u64 (q.b : Int), .int .u32 (q.s : Int)])) rfl (by kernel_rfl) (by kernel_rfl) (by kernel_rfl) (fun _ _ _ h => h) rfl (.tail _ (.tail _ (.tail _ (.tail _ (.tail _ (.head _)))))) (fun ww hw => exec_load_mid _ _ (by rfl) _ _ (by rfl) _ _ hw Try.underlying26 rfl (infoPtr q)) ?_
  simp only [Act.put, List.setIfInBounds_toArray, List.set_cons_zero, List.set_cons_succ]
  refine inO_load 19 ⟨_, _, _, _, _, _⟩ (.agg ([.int .i64 p.a, .int .u64 (p.b : Int), .int .u32 (p.s : Int)]).toArray) (fun w' => w'.rangeAt (w.heap.size) (0) ([.int .i64 p.a, .int .u64 (p.b : Int), .int .u32 (p.s : Int)])) rfl (by kernel_rfl) (by kernel_rfl) (by kernel_rfl) (fun _ _ _ h => h) rfl (.tail _ (.tail _ (.tail _ (.tail _ (.tail _ (.tail _ (.head _))))))) (fun ww hw => exec_load_mid _ _ (by rfl) _ _ (by rfl) _ _ hw Try.underlying26 rfl (infoPtr p)) ?_
  simp only [Act.put, List.setIfInBounds_toArray, List.set_cons_zero, List.set_cons_succ]
  refine inO_load 20 ⟨_, _, _, _, _, _⟩ (.agg ([.int .i64 q.a, .int .u64 (q.b : Int), .int .u32 (q.s : Int)]).toArray) (fun w' => w'.rangeAt (w.heap.size + 1) (0) ([.int .i64 q.a, .int .u64 (q.b : Int), .int .u32 (q.s : Int)])) rfl (by kernel_rfl) (by kernel_rfl) (by kernel_rfl) (fun _ _ _ h => h) rfl (.tail _ (.tail _ (.tail _ (.tail _ (.tail _ (.tail _ (.tail _ (.head _)))))))) (fun ww hw => exec_load_mid _ _ (by rfl) _ _ (by rfl) _ _ hw Try.underlying26 rfl (infoPtr q)) ?_
  simp only [Act.put, List.setIfInBounds_toArray, List.set_cons_zero, List.set_cons_succ]
  refine inO_take 21 ⟨_, _, _, _, _, _⟩ (.bool false) rfl (by kernel_rfl) (by kernel_rfl) (by kernel_rfl) (fun _ _ _ h => h) rfl (fun ww => by go_simp) ?_
  simp only [Act.put, List.setIfInBounds_toArray, List.set_cons_zero, List.set_cons_succ]
  refine inO_step 11 ⟨_, _, _, _, _, _⟩ rfl (by kernel_rfl) rfl (fun K hK => ?_)
  refine wp_call Try.func12 (by kernel_rfl) rfl _ _ rfl _ rfl _ (C_pq.out _) fun e v3 h => ?_
  obtain ⟨rfl, hb⟩ := h
  refine ⟨_, rfl, ?_⟩
  have hq := Lib.hid (hq.out.trans (hb.mono hq.out.size))
  have P1 := Lib.hid (P1.out.next hb)
  have Q1 := Lib.hid (Q1.out.next hb)
  have R1 := Lib.hid (R1.out.next hb)
  refine hK _ _ (Keeps.cons (fun h j v hv => keepCell hb (h j v hv)) (Keeps.cons (fun h j v hv => keepCell hb (h j v hv)) (Keeps.cons (fun h j v hv => keepCell hb (h j v hv)) (Keeps.cons (fun h j v hv => keepCell hb (h j v hv)) (Keeps.cons (fun h j v hv => keepCell hb (h j v hv)) (Keeps.cons (fun h j v hv => keepCell hb (h j v hv)) (Keeps.cons (fun h j v hv => keepCell hb (h j v hv)) (Keeps.cons (fun h j v hv => keepCell hb (h j v hv)) (Keeps.nil _ _ _))))))))) ?_
  clear hK K
  simp only [Act.put, List.setIfInBounds_toArray, List.set_cons_zero, List.set_cons_succ]
  refine inO_take 12 ⟨_, _, _, _, _, _⟩ (.bool false) rfl (by kernel_rfl) (by kernel_rfl) (by kernel_rfl) (fun _ _ _ h => h) rfl (fun ww => by go_simp) ?_
  simp only [Act.put, List.setIfInBounds_toArray, List.set_cons_zero, List.set_cons_succ]
  refine inO_take 13 ⟨_, _, _, _, _, _⟩ (.bool false) rfl (by kernel_rfl) (by kernel_rfl) (by kernel_rfl) (fun _ _ _ h => h) rfl (fun ww => exec_move (by rfl) (by rfl) ww) ?_
  simp only [Act.put, List.setIfInBounds_toArray, List.set_cons_zero, List.set_cons_succ]
  refine inO_pass 14 ⟨_, _, _, _, _, _⟩ rfl (by kernel_rfl) (by kernel_rfl) (by kernel_rfl) (fun _ _ _ h => h) rfl ?_
  simp only [Act.put, List.setIfInBounds_toArray, List.set_cons_zero, List.set_cons_succ]
  refine inO_pass 15 ⟨_, _, _, _, _, _⟩ rfl (by kernel_rfl) (by kernel_rfl) (by kernel_rfl) (fun _ _ _ h => h) rfl ?_
  simp only [Act.put, List.setIfInBounds_toArray, List.set_cons_zero, List.set_cons_succ]
  refine inO_pass 16 ⟨_, _, _, _, _, _⟩ rfl (by kernel_rfl) (by kernel_rfl) (by kernel_rfl) (fun _ _ _ h => h) rfl ?_
  simp only [Act.put, List.setIfInBounds_toArray, List.set_cons_zero, List.set_cons_succ]
  refine inO_pass 17 ⟨_, _, _, _, _, _⟩ rfl (by kernel_rfl) (by kernel_rfl) (by kernel_rfl) (fun _ _ _ h => h) rfl ?_
  simp only [Act.put, List.setIfInBounds_toArray, List.set_cons_zero, List.set_cons_succ]
  refine inO_take 18 ⟨_, _, _, _, _, _⟩ (.bool false) rfl (by kernel_rfl) (by kernel_rfl) (by kernel_rfl) (fun _ _ _ h => h) rfl (fun ww => by go_simp) ?_
  simp only [Act.put, List.setIfInBounds_toArray, List.set_cons_zero, List.set_cons_succ]
  refine inO_take 22 ⟨_, _, _, _, _, _⟩ (.bool false) rfl (by kernel_rfl) (by kernel_rfl) (by kernel_rfl) (fun _ _ _ h => h) rfl (fun ww => by go_simp) ?_
  simp only [Act.put, List.setIfInBounds_toArray, List.set_cons_zero, List.set_cons_succ]
  refine inO_take 23 ⟨_, _, _, _, _, _⟩ (.bool false) rfl (by kernel_rfl) (by kernel_rfl) (by kernel_rfl) (fun _ _ _ h => h) rfl (fun ww => by go_simp) ?_
  simp only [Act.put, List.setIfInBounds_toArray, List.set_cons_zero, List.set_cons_succ]
  refine inO_done (by kernel_rfl) ?_
  clear c0 c1 c2 c3 c4 c5 c6 c7 c8
  obtain ⟨c0, c1, c2⟩ := P1.out.cells
  obtain ⟨c3, c4, c5⟩ := Q1.out.cells
  obtain ⟨c6, c7, c8⟩ := R1.out.cells
  go_wp2_with fail
  refine (C_pq.out _).mono ?_
  rintro e w3 ⟨rfl, hb⟩
  clear c0 c1 c2 c3 c4 c5 c6 c7 c8
  have P1 := Lib.hid (P1.out.next hb)
  have Q1 := Lib.hid (Q1.out.next hb)
  have R1 := Lib.hid (R1.out.next hb)
  obtain ⟨c0, c1, c2⟩ := P1.out.cells
  obtain ⟨c3, c4, c5⟩ := Q1.out.cells
  obtain ⟨c6, c7, c8⟩ := R1.out.cells
  have hq := Lib.hid (hq.out.trans (hb.mono hq.out.size))
  go_wp2_with fail
  refine (C_qr.out _).mono ?_
  rintro e w4 ⟨rfl, hb⟩
  clear c0 c1 c2 c3 c4 c5 c6 c7 c8
  have P1 := Lib.hid (P1.out.next hb)
  have Q1 := Lib.hid (Q1.out.next hb)
  have R1 := Lib.hid (R1.out.next hb)
  obtain ⟨c0, c1, c2⟩ := P1.out.cells
  obtain ⟨c3, c4, c5⟩ := Q1.out.cells
  obtain ⟨c6, c7, c8⟩ := R1.out.cells
  have hq := Lib.hid (hq.out.trans (hb.mono hq.out.size))
  go_wp2_with fail
  refine (C_si.out _).mono ?_
  rintro e w6 ⟨rfl, hb⟩
  clear c0 c1 c2 c3 c4 c5 c6 c7 c8
  have P1 := Lib.hid (P1.out.next hb)
  have Q1 := Lib.hid (Q1.out.next hb)
  have R1 := Lib.hid (R1.out.next hb)
  obtain ⟨c0, c1, c2⟩ := P1.out.cells
  obtain ⟨c3, c4, c5⟩ := Q1.out.cells
  obtain ⟨c6, c7, c8⟩ := R1.out.cells
  have hq := Lib.hid (hq.out.trans (hb.mono hq.out.size))
  go_wp2
  go_ret
  exact ⟨rfl, hq.out⟩

set_option maxHeartbeats 4000000 in
theorem way_b1 (p q r : P3) (w : World) (hp : p.Fit) (hq0 : q.Fit) (hr0 : r.Fit) (pq : p.lessB q = false) (qp : q.lessB p = true) (eq : p.eqB q = false) (si : p.sinceB r.b = true) (rp : r.lessB p = true) :
    Calls Try.prog 7 #[p3V p, p3V q, p3V r] w fun e w' => e = .returned (.bool true) ∧ Below w.heap.size w w' := by
  have c_pq : ∀ W, Calls Try.prog 12 #[.agg #[.int .i64 p.a, .int .u64 (p.b : Int), .int .u32 (p.s : Int)], .agg #[.int .i64 q.a, .int .u64 (q.b : Int), .int .u32 (q.s : Int)]] W fun e w' => e = .returned (.bool false) ∧ Below W.heap.size W w' := fun W => by have h := Less_any p.a p.b p.s q.a q.b q.s W hp hq0; rw [show P3.lessB ⟨p.a, p.b, p.s⟩ ⟨q.a, q.b, q.s⟩ = false from pq] at h; exact h
  have C_pq := Lib.hid c_pq
  clear c_pq
  have c_qp : ∀ W, Calls Try.prog 12 #[.agg #[.int .i64 q.a, .int .u64 (q.b : Int), .int .u32 (q.s : Int)], .agg #[.int .i64 p.a, .int .u64 (p.b : Int), .int .u32 (p.s : Int)]] W fun e w' => e = .returned (.bool true) ∧ Below W.heap.size W w' := fun W => by have h := Less_any q.a q.b q.s p.a p.b p.s W hq0 hp; rw [show P3.lessB ⟨q.a, q.b, q.s⟩ ⟨p.a, p.b, p.s⟩ = true from qp] at h; exact h
  have C_qp := Lib.hid c_qp
  clear c_qp
  have c_rp : ∀ W, Calls Try.prog 12 #[.agg #[.int .i64 r.a, .int .u64 (r.b : Int), .int .u32 (r.s : Int)], .agg #[.int .i64 p.a, .int .u64 (p.b : Int), .int .u32 (p.s : Int)]] W fun e w' => e = .returned (.bool true) ∧ Below W.heap.size W w' := fun W => by have h := Less_any r.a r.b r.s p.a p.b p.s W hr0 hp; rw [show P3.lessB ⟨r.a, r.b, r.s⟩ ⟨p.a, p.b, p.s⟩ = true from rp] at h; exact h
  have C_rp := Lib.hid c_rp
  clear c_rp
  have c_si : ∀ W, Calls Try.prog 14 #[.agg #[.int .i64 p.a, .int .u64 (p.b : Int), .int .u32 (p.s : Int)], .int .u64 (r.b : Int)] W fun e w' => e = .returned (.bool true) ∧ Below W.heap.size W w' := fun W => by have h := Since_any p.a p.b p.s r.b W hp hr0.2.1; rw [show P3.sinceB ⟨p.a, p.b, p.s⟩ r.b = true from si] at h; exact h
  have C_si := Lib.hid c_si
  clear c_si
  have hE : ∀ W, (Op.equalIn 10000 26 (.agg #[.int .i64 p.a, .int .u64 (p.b : Int), .int .u32 (p.s : Int)]) (.agg #[.int .i64 q.a, .int .u64 (q.b : Int), .int .u32 (q.s : Int)])).run Try.prog W = .ok false W := fun W => by rw [← eq]; exact eqPtr W p q
  clear hp hq0 hr0 eq si pq qp rp
  have hq := Lib.hid ((((Below.refl w.heap.size w).alloc (Nat.le_refl _) (.cells #[.int .i64 p.a, .int .u64 (p.b : Int), .int .u32 (p.s : Int)] 26)).alloc (by simp) (.cells #[.int .i64 q.a, .int .u64 (q.b : Int), .int .u32 (q.s : Int)] 26)).alloc (by simp; omega) (.cells #[.int .i64 r.a, .int .u64 (r.b : Int), .int .u32 (r.s : Int)] 26))
  have P1 := ((PtrAt.first w p).alloc (.cells #[.int .i64 q.a, .int .u64 (q.b : Int), .int .u32 (q.s : Int)] 26)).alloc (.cells #[.int .i64 r.a, .int .u64 (r.b : Int), .int .u32 (r.s : Int)] 26)
  have Q1 := (PtrAt.first (w.alloc (.cells #[.int .i64 p.a, .int .u64 (p.b : Int), .int .u32 (p.s : Int)] 26)) q).alloc (.cells #[.int .i64 r.a, .int .u64 (r.b : Int), .int .u32 (r.s : Int)] 26)
  have R1 := PtrAt.first ((w.alloc (.cells #[.int .i64 p.a, .int .u64 (p.b : Int), .int .u32 (p.s : Int)] 26)).alloc (.cells #[.int .i64 q.a, .int .u64 (q.b : Int), .int .u32 (q.s : Int)] 26)) r
  rw [show (w.alloc (.cells #[.int .i64 p.a, .int .u64 (p.b : Int), .int .u32 (p.s : Int)] 26)).heap.size = w.heap.size + 1 from by simp] at Q1
  rw [show ((w.alloc (.cells #[.int .i64 p.a, .int .u64 (p.b : Int), .int .u32 (p.s : Int)] 26)).alloc (.cells #[.int .i64 q.a, .int .u64 (q.b : Int), .int .u32 (q.s : Int)] 26)).heap.size = w.heap.size + 2 from by simp] at R1
  obtain ⟨c0, c1, c2⟩ := P1.cells
  obtain ⟨c3, c4, c5⟩ := Q1.cells
  obtain ⟨c6, c7, c8⟩ := R1.cells
  have P1 := Lib.hid P1
  have Q1 := Lib.hid Q1
  have R1 := Lib.hid R1
  unfold p3V
  go_enter Try.func7, Try.ntmps7
  go_wp2_with fail
  refine (alive_any _).mono ?_
  rintro e w1 ⟨rfl, hb⟩
  clear c0 c1 c2 c3 c4 c5 c6 c7 c8
  have P1 := Lib.hid (P1.out.next hb)
  have Q1 := Lib.hid (Q1.out.next hb)
  have R1 := Lib.hid (R1.out.next hb)
  obtain ⟨c0, c1, c2⟩ := P1.out.cells
  obtain ⟨c3, c4, c5⟩ := Q1.out.cells
  obtain ⟨c6, c7, c8⟩ := R1.out.cells
  have hq := Lib.hid (hq.out.trans (hb.mono hq.out.size))
  go_wp2
  refine inO_region [(0, fun w' => w'.rangeAt (w.heap.size) (0) ([.int .i64 p.a, .int .u64 (p.b : Int), .int .u32 (p.s : Int)])), (1, fun w' => w'.rangeAt (w.heap.size + 1) (0) ([.int .i64 q.a, .int .u64 (q.b : Int), .int .u32 (q.s : Int)])), (9, fun w' => w'.rangeAt (w.heap.size) (0) ([.int .i64 p.a, .int .u64 (p.b : Int), .int .u32 (p.s : Int)])), (10, fun w' => w'.rangeAt (w.heap.size + 1) (0) ([.int .i64 q.a, .int .u64 (q.b : Int), .int .u32 (q.s : Int)])), (14, fun w' => w'.rangeAt (w.heap.size + 1) (0) ([.int .i64 q.a, .int .u64 (q.b : Int), .int .u32 (q.s : Int)])), (15, fun w' => w'.rangeAt (w.heap.size) (0) ([.int .i64 p.a, .int .u64 (p.b : Int), .int .u32 (p.s : Int)])), (19, fun w' => w'.rangeAt (w.heap.size) (0) ([.int .i64 p.a, .int .u64 (p.b : Int), .int .u32 (p.s : Int)])), (20, fun w' => w'.rangeAt (w.heap.size + 1) (0) ([.int .i64 q.a, .int .u64 (q.b : Int), .int .u32 (q.s : Int)]))] (by kernel_rfl) (Owed.cons ((P1.out.drew.range)) (Owed.cons ((Q1.out.drew.range)) (Owed.cons ((P1.out.drew.range)) (Owed.cons ((Q1.out.drew.range)) (Owed.cons ((Q1.out.drew.range)) (Owed.cons ((P1.out.drew.range)) (Owed.cons ((P1.out.drew.range)) (Owed.cons ((Q1.out.drew.range)) (Owed.nil _ _))))))))) ?_
  refine inO_load 0 ⟨_, _, _, _, _, _⟩ (.agg ([.int .i64 p.a, .int .u64 (p.b : Int), .int .u32 (p.s : Int)]).toArray) (fun w' => w'.rangeAt (w.heap.size) (0) ([.int .i64 p.a, .int .u64 (p.b : Int), .int .u32 (p.s : Int)])) rfl (by kernel_rfl) (by kernel_rfl) (by kernel_rfl) (fun _ _ _ h => h) rfl (.head _) (fun ww hw => exec_load_mid _ _ (by rfl) _ _ (by rfl) _ _ hw Try.underlying26 rfl (infoPtr p)) ?_
  simp only [Act.put, List.setIfInBounds_toArray, List.set_cons_zero, List.set_cons_succ]
  refine inO_load 1 ⟨_, _, _, _, _, _⟩ (.agg ([.int .i64 q.a, .int .u64 (q.b : Int), .int .u32 (q.s : Int)]).toArray) (fun w' => w'.rangeAt (w.heap.size + 1) (0) ([.int .i64 q.a, .int .u64 (q.b : Int), .int .u32 (q.s : Int)])) rfl (by kernel_rfl) (by kernel_rfl) (by kernel_rfl) (fun _ _ _ h => h) rfl (.tail _ (.head _)) (fun ww hw => exec_load_mid _ _ (by rfl) _ _ (by rfl) _ _ hw Try.underlying26 rfl (infoPtr q)) ?_
  simp only [Act.put, List.setIfInBounds_toArray, List.set_cons_zero, List.set_cons_succ]
  refine inO_step 2 ⟨_, _, _, _, _, _⟩ rfl (by kernel_rfl) rfl (fun K hK => ?_)
  refine wp_call Try.func12 (by kernel_rfl) rfl _ _ rfl _ rfl _ (C_pq.out _) fun e v1 h => ?_
  obtain ⟨rfl, hb⟩ := h
  refine ⟨_, rfl, ?_⟩
  have hq := Lib.hid (hq.out.drew.trans (hb.mono hq.out.size))
  have P1 := Lib.hid (P1.out.drew.next hb)
  have Q1 := Lib.hid (Q1.out.drew.next hb)
  have R1 := Lib.hid (R1.out.drew.next hb)
  refine hK _ _ (Keeps.cons (fun h j v hv => keepCell hb (h j v hv)) (Keeps.cons (fun h j v hv => keepCell hb (h j v hv)) (Keeps.cons (fun h j v hv => keepCell hb (h j v hv)) (Keeps.cons (fun h j v hv => keepCell hb (h j v hv)) (Keeps.cons (fun h j v hv => keepCell hb (h j v hv)) (Keeps.cons (fun h j v hv => keepCell hb (h j v hv)) (Keeps.cons (fun h j v hv => keepCell hb (h j v hv)) (Keeps.cons (fun h j v hv => keepCell hb (h j v hv)) (Keeps.nil _ _ _))))))))) ?_
  clear hK K
  simp only [Act.put, List.setIfInBounds_toArray, List.set_cons_zero, List.set_cons_succ]
  refine inO_take 3 ⟨_, _, _, _, _, _⟩ (.bool false) rfl (by kernel_rfl) (by kernel_rfl) (by kernel_rfl) (fun _ _ _ h => h) rfl (fun ww => exec_move (by rfl) (by rfl) ww) ?_
  simp only [Act.put, List.setIfInBounds_toArray, List.set_cons_zero, List.set_cons_succ]
  refine inO_pass 4 ⟨_, _, _, _, _, _⟩ rfl (by kernel_rfl) (by kernel_rfl) (by kernel_rfl) (fun _ _ _ h => h) rfl ?_
  simp only [Act.put, List.setIfInBounds_toArray, List.set_cons_zero, List.set_cons_succ]
  refine inO_pass 5 ⟨_, _, _, _, _, _⟩ rfl (by kernel_rfl) (by kernel_rfl) (by kernel_rfl) (fun _ _ _ h => h) rfl ?_
  simp only [Act.put, List.setIfInBounds_toArray, List.set_cons_zero, List.set_cons_succ]
  refine inO_pass 6 ⟨_, _, _, _, _, _⟩ rfl (by kernel_rfl) (by kernel_rfl) (by kernel_rfl) (fun _ _ _ h => h) rfl ?_
  simp only [Act.put, List.setIfInBounds_toArray, List.set_cons_zero, List.set_cons_succ]
  refine inO_take 7 ⟨_, _, _, _, _, _⟩ (.bool false) rfl (by kernel_rfl) (by kernel_rfl) (by kernel_rfl) (fun _ _ _ h => h) rfl (fun ww => by go_simp) ?_
  simp only [Act.put, List.setIfInBounds_toArray, List.set_cons_zero, List.set_cons_succ]
  refine inO_take 8 ⟨_, _, _, _, _, _⟩ (.bool false) rfl (by kernel_rfl) (by kernel_rfl) (by kernel_rfl) (fun _ _ _ h => h) rfl (fun ww => exec_move (by rfl) (by rfl) ww) ?_
  simp only [Act.put, List.setIfInBounds_toArray, List.set_cons_zero, List.set_cons_succ]
  refine inO_load 9 ⟨_, _, _, _, _, _⟩ (.agg ([.int .i64 p.a, .int .u64 (p.b : Int), .int .u32 (p.s : Int)]).toArray) (fun w' => w'.rangeAt (w.heap.size) (0) ([.int .i64 p.a, .int .u64 (p.b : Int), .int .u32 (p.s : Int)])) rfl (by kernel_rfl) (by kernel_rfl) (by kernel_rfl) (fun _ _ _ h => h) rfl (.tail _ (.tail _ (.head _))) (fun ww hw => exec_load_mid _ _ (by rfl) _ _ (by rfl) _ _ hw Try.underlying26 rfl (infoPtr p)) ?_
  simp only [Act.put, List.setIfInBounds_toArray, List.set_cons_zero, List.set_cons_succ]
  refine inO_load 10 ⟨_, _, _, _, _, _⟩ (.agg ([.int .i64 q.a, .int .u64 (q.b : Int), .int .u32 (q.s : Int)]).toArray) (fun w' => w'.rangeAt (w.heap.size + 1) (0) ([.int .i64 q.a, .int .u64 (q.b : Int), .int .u32 (q.s : Int)])) rfl (by kernel_rfl) (by kernel_rfl) (by kernel_rfl) (fun _ _ _ h => h) rfl (.tail _ (.tail _ (.tail _ (.head _)))) (fun ww hw => exec_load_mid _ _ (by rfl) _ _ (by rfl) _ _ hw Try.underlying26 rfl (infoPtr q)) ?_
  simp only [Act.put, List.setIfInBounds_toArray, List.set_cons_zero, List.set_cons_succ]
  refine inO_load 19 ⟨_, _, _, _, _, _⟩ (.agg ([.int .i64 p.a, .int .u64 (p.b : Int), .int .u32 (p.s : Int)]).toArray) (fun w' => w'.rangeAt (w.heap.size) (0) ([.int .i64 p.a, .int .u64 (p.b : Int), .int .u32 (p.s : Int)])) rfl (by kernel_rfl) (by kernel_rfl) (by kernel_rfl) (fun _ _ _ h => h) rfl (.tail _ (.tail _ (.tail _ (.tail _ (.tail _ (.tail _ (.head _))))))) (fun ww hw => exec_load_mid _ _ (by rfl) _ _ (by rfl) _ _ hw Try.underlying26 rfl (infoPtr p)) ?_
  simp only [Act.put, List.setIfInBounds_toArray, List.set_cons_zero, List.set_cons_succ]
  refine inO_load 20 ⟨_, _, _, _, _, _⟩ (.agg ([.int .i64 q.a, .int .u64 (q.b : Int), .int .u32 (q.s : Int)]).toArray) (fun w' => w'.rangeAt (w.heap.size + 1) (0) ([.int .i64 q.a, .int .u64 (q.b : Int), .int .u32 (q.s : Int)])) rfl (by kernel_rfl) (by kernel_rfl) (by kernel_rfl) (fun _ _ _ h => h) rfl (.tail _ (.tail _ (.tail _ (.tail _ (.tail _ (.tail _ (.tail _ (.head _)))))))) (fun ww hw => exec_load_mid _ _ (by rfl) _ _ (by rfl) _ _ hw Try.underlying26 rfl (infoPtr q)) ?_
  simp only [Act.put, List.setIfInBounds_toArray, List.set_cons_zero, List.set_cons_succ]
  refine inO_take 21 ⟨_, _, _, _, _, _⟩ (.bool false) rfl (by kernel_rfl) (by kernel_rfl) (by kernel_rfl) (fun _ _ _ h => h) rfl (fun ww => by go_simp) ?_
  simp only [Act.put, List.setIfInBounds_toArray, List.set_cons_zero, List.set_cons_succ]
  refine inO_step 11 ⟨_, _, _, _, _, _⟩ rfl (by kernel_rfl) rfl (fun K hK => ?_)
  refine wp_call Try.func12 (by kernel_rfl) rfl _ _ rfl _ rfl _ (C_pq.out _) fun e v2 h => ?_
  obtain ⟨rfl, hb⟩ := h
  refine ⟨_, rfl, ?_⟩
  have hq := Lib.hid (hq.out.trans (hb.mono hq.out.size))
  have P1 := Lib.hid (P1.out.next hb)
  have Q1 := Lib.hid (Q1.out.next hb)
  have R1 := Lib.hid (R1.out.next hb)
  refine hK _ _ (Keeps.cons (fun h j v hv => keepCell hb (h j v hv)) (Keeps.cons (fun h j v hv => keepCell hb (h j v hv)) (Keeps.cons (fun h j v hv => keepCell hb (h j v hv)) (Keeps.cons (fun h j v hv => keepCell hb (h j v hv)) (Keeps.cons (fun h j v hv => keepCell hb (h j v hv)) (Keeps.cons (fun h j v hv => keepCell hb (h j v hv)) (Keeps.cons (fun h j v hv => keepCell hb (h j v hv)) (Keeps.cons (fun h j v hv => keepCell hb (h j v hv)) (Keeps.nil _ _ _))))))))) ?_
  clear hK K
  simp only [Act.put, List.setIfInBounds_toArray, List.set_cons_zero, List.set_cons_succ]
  refine inO_take 12 ⟨_, _, _, _, _, _⟩ (.bool true) rfl (by kernel_rfl) (by kernel_rfl) (by kernel_rfl) (fun _ _ _ h => h) rfl (fun ww => by go_simp) ?_
  simp only [Act.put, List.setIfInBounds_toArray, List.set_cons_zero, List.set_cons_succ]
  refine inO_take 13 ⟨_, _, _, _, _, _⟩ (.bool true) rfl (by kernel_rfl) (by kernel_rfl) (by kernel_rfl) (fun _ _ _ h => h) rfl (fun ww => exec_move (by rfl) (by rfl) ww) ?_
  simp only [Act.put, List.setIfInBounds_toArray, List.set_cons_zero, List.set_cons_succ]
  refine inO_load 14 ⟨_, _, _, _, _, _⟩ (.agg ([.int .i64 q.a, .int .u64 (q.b : Int), .int .u32 (q.s : Int)]).toArray) (fun w' => w'.rangeAt (w.heap.size + 1) (0) ([.int .i64 q.a, .int .u64 (q.b : Int), .int .u32 (q.s : Int)])) rfl (by kernel_rfl) (by kernel_rfl) (by kernel_rfl) (fun _ _ _ h => h) rfl (.tail _ (.tail _ (.tail _ (.tail _ (.head _))))) (fun ww hw => exec_load_mid _ _ (by rfl) _ _ (by rfl) _ _ hw Try.underlying26 rfl (infoPtr q)) ?_
  simp only [Act.put, List.setIfInBounds_toArray, List.set_cons_zero, List.set_cons_succ]
  refine inO_load 15 ⟨_, _, _, _, _, _⟩ (.agg ([.int .i64 p.a, .int .u64 (p.b : Int), .int .u32 (p.s : Int)]).toArray) (fun w' => w'.rangeAt (w.heap.size) (0) ([.int .i64 p.a, .int .u64 (p.b : Int), .int .u32 (p.s : Int)])) rfl (by kernel_rfl) (by kernel_rfl) (by kernel_rfl) (fun _ _ _ h => h) rfl (.tail _ (.tail _ (.tail _ (.tail _ (.tail _ (.head _)))))) (fun ww hw => exec_load_mid _ _ (by rfl) _ _ (by rfl) _ _ hw Try.underlying26 rfl (infoPtr p)) ?_
  simp only [Act.put, List.setIfInBounds_toArray, List.set_cons_zero, List.set_cons_succ]
  refine inO_step 16 ⟨_, _, _, _, _, _⟩ rfl (by kernel_rfl) rfl (fun K hK => ?_)
  refine wp_call Try.func12 (by kernel_rfl) rfl _ _ rfl _ rfl _ (C_qp.out _) fun e v3 h => ?_
  obtain ⟨rfl, hb⟩ := h
  refine ⟨_, rfl, ?_⟩
  have hq := Lib.hid (hq.out.trans (hb.mono hq.out.size))
  have P1 := Lib.hid (P1.out.next hb)
  have Q1 := Lib.hid (Q1.out.next hb)
  have R1 := Lib.hid (R1.out.next hb)
  refine hK _ _ (Keeps.cons (fun h j v hv => keepCell hb (h j v hv)) (Keeps.cons (fun h j v hv => keepCell hb (h j v hv)) (Keeps.cons (fun h j v hv => keepCell hb (h j v hv)) (Keeps.cons (fun h j v hv => keepCell hb (h j v hv)) (Keeps.cons (fun h j v hv => keepCell hb (h j v hv)) (Keeps.cons (fun h j v hv => keepCell hb (h j v hv)) (Keeps.cons (fun h j v hv => keepCell hb (h j v hv)) (Keeps.cons (fun h j v hv => keepCell hb (h j v hv)) (Keeps.nil _ _ _))))))))) ?_
  clear hK K
  simp only [Act.put, List.setIfInBounds_toArray, List.set_cons_zero, List.set_cons_succ]
  refine inO_take 17 ⟨_, _, _, _, _, _⟩ (.bool false) rfl (by kernel_rfl) (by kernel_rfl) (by kernel_rfl) (fun _ _ _ h => h) rfl (fun ww => by go_simp) ?_
  simp only [Act.put, List.setIfInBounds_toArray, List.set_cons_zero, List.set_cons_succ]
  refine inO_take 18 ⟨_, _, _, _, _, _⟩ (.bool false) rfl (by kernel_rfl) (by kernel_rfl) (by kernel_rfl) (fun _ _ _ h => h) rfl (fun ww => by go_simp) ?_
  simp only [Act.put, List.setIfInBounds_toArray, List.set_cons_zero, List.set_cons_succ]
  refine inO_take 22 ⟨_, _, _, _, _, _⟩ (.bool false) rfl (by kernel_rfl) (by kernel_rfl) (by kernel_rfl) (fun _ _ _ h => h) rfl (fun ww => by go_simp) ?_
  simp only [Act.put, List.setIfInBounds_toArray, List.set_cons_zero, List.set_cons_succ]
  refine inO_take 23 ⟨_, _, _, _, _, _⟩ (.bool false) rfl (by kernel_rfl) (by kernel_rfl) (by kernel_rfl) (fun _ _ _ h => h) rfl (fun ww => by go_simp) ?_
  simp only [Act.put, List.setIfInBounds_toArray, List.set_cons_zero, List.set_cons_succ]
  refine inO_done (by kernel_rfl) ?_
  clear c0 c1 c2 c3 c4 c5 c6 c7 c8
  obtain ⟨c0, c1, c2⟩ := P1.out.cells
  obtain ⟨c3, c4, c5⟩ := Q1.out.cells
  obtain ⟨c6, c7, c8⟩ := R1.out.cells
  go_wp2_with fail
  refine (C_pq.out _).mono ?_
  rintro e w3 ⟨rfl, hb⟩
  clear c0 c1 c2 c3 c4 c5 c6 c7 c8
  have P1 := Lib.hid (P1.out.next hb)
  have Q1 := Lib.hid (Q1.out.next hb)
  have R1 := Lib.hid (R1.out.next hb)
  obtain ⟨c0, c1, c2⟩ := P1.out.cells
  obtain ⟨c3, c4, c5⟩ := Q1.out.cells
  obtain ⟨c6, c7, c8⟩ := R1.out.cells
  have hq := Lib.hid (hq.out.trans (hb.mono hq.out.size))
  go_wp2_with fail
  refine (C_si.out _).mono ?_
  rintro e w6 ⟨rfl, hb⟩
  clear c0 c1 c2 c3 c4 c5 c6 c7 c8
  have P1 := Lib.hid (P1.out.next hb)
  have Q1 := Lib.hid (Q1.out.next hb)
  have R1 := Lib.hid (R1.out.next hb)
  obtain ⟨c0, c1, c2⟩ := P1.out.cells
  obtain ⟨c3, c4, c5⟩ := Q1.out.cells
  obtain ⟨c6, c7, c8⟩ := R1.out.cells
  have hq := Lib.hid (hq.out.trans (hb.mono hq.out.size))
  go_wp2_with fail
  refine (C_rp.out _).mono ?_
  rintro e w7 ⟨rfl, hb⟩
  clear c0 c1 c2 c3 c4 c5 c6 c7 c8
  have P1 := Lib.hid (P1.out.next hb)
  have Q1 := Lib.hid (Q1.out.next hb)
  have R1 := Lib.hid (R1.out.next hb)
  obtain ⟨c0, c1, c2⟩ := P1.out.cells
  obtain ⟨c3, c4, c5⟩ := Q1.out.cells
  obtain ⟨c6, c7, c8⟩ := R1.out.cells
  have hq := Lib.hid (hq.out.trans (hb.mono hq.out.size))
  go_wp2
  go_ret
  exact ⟨rfl, hq.out⟩

set_option maxHeartbeats 4000000 in
theorem way_b2 (p q r : P3) (w : World) (hp : p.Fit) (hq0 : q.Fit) (hr0 : r.Fit) (pq : p.lessB q = false) (qp : q.lessB p = true) (eq : p.eqB q = false) (si : p.sinceB r.b = false) :
    Calls Try.prog 7 #[p3V p, p3V q, p3V r] w fun e w' => e = .returned (.bool true) ∧ Below w.heap.size w w' := by
  have c_pq : ∀ W, Calls Try.prog 12 #[.agg #[.int .i64 p.a, .int .u64 (p.b : Int), .int .u32 (p.s : Int)], .agg #[.int .i64 q.a, .int .u64 (q.b : Int), .int .u32 (q.s : Int)]] W fun e w' => e = .returned (.bool false) ∧ Below W.heap.size W w' := fun W => by have h := Less_any p.a p.b p.s q.a q.b q.s W hp hq0; rw [show P3.lessB ⟨p.a, p.b, p.s⟩ ⟨q.a, q.b, q.s⟩ = false from pq] at h; exact h
  have C_pq := Lib.hid c_pq
  clear c_pq
  have c_qp : ∀ W, Calls Try.prog 12 #[.agg #[.int .i64 q.a, .int .u64 (q.b : Int), .int .u32 (q.s : Int)], .agg #[.int .i64 p.a, .int .u64 (p.b : Int), .int .u32 (p.s : Int)]] W fun e w' => e = .returned (.bool true) ∧ Below W.heap.size W w' := fun W => by have h := Less_any q.a q.b q.s p.a p.b p.s W hq0 hp; rw [show P3.lessB ⟨q.a, q.b, q.s⟩ ⟨p.a, p.b, p.s⟩ = true from qp] at h; exact h
  have C_qp := Lib.hid c_qp
  clear c_qp
  have c_si : ∀ W, Calls Try.prog 14 #[.agg #[.int .i64 p.a, .int .u64 (p.b : Int), .int .u32 (p.s : Int)], .int .u64 (r.b : Int)] W fun e w' => e = .returned (.bool false) ∧ Below W.heap.size W w' := fun W => by have h := Since_any p.a p.b p.s r.b W hp hr0.2.1; rw [show P3.sinceB ⟨p.a, p.b, p.s⟩ r.b = false from si] at h; exact h
  have C_si := Lib.hid c_si
  clear c_si
  have hE : ∀ W, (Op.equalIn 10000 26 (.agg #[.int .i64 p.a, .int .u64 (p.b : Int), .int .u32 (p.s : Int)]) (.agg #[.int .i64 q.a, .int .u64 (q.b : Int), .int .u32 (q.s : Int)])).run Try.prog W = .ok false W := fun W => by rw [← eq]; exact eqPtr W p q
  clear hp hq0 hr0 eq si pq qp
  have hq := Lib.hid ((((Below.refl w.heap.size w).alloc (Nat.le_refl _) (.cells #[.int .i64 p.a, .int .u64 (p.b : Int), .int .u32 (p.s : Int)] 26)).alloc (by simp) (.cells #[.int .i64 q.a, .int .u64 (q.b : Int), .int .u32 (q.s : Int)] 26)).alloc (by simp; omega) (.cells #[.int .i64 r.a, .int .u64 (r.b : Int), .int .u32 (r.s : Int)] 26))
  have P1 := ((PtrAt.first w p).alloc (.cells #[.int .i64 q.a, .int .u64 (q.b : Int), .int .u32 (q.s : Int)] 26)).alloc (.cells #[.int .i64 r.a, .int .u64 (r.b : Int), .int .u32 (r.s : Int)] 26)
  have Q1 := (PtrAt.first (w.alloc (.cells #[.int .i64 p.a, .int .u64 (p.b : Int), .int .u32 (p.s : Int)] 26)) q).alloc (.cells #[.int .i64 r.a, .int .u64 (r.b : Int), .int .u32 (r.s : Int)] 26)
  have R1 := PtrAt.first ((w.alloc (.cells #[.int .i64 p.a, .int .u64 (p.b : Int), .int .u32 (p.s : Int)] 26)).alloc (.cells #[.int .i64 q.a, .int .u64 (q.b : Int), .int .u32 (q.s : Int)] 26)) r
  rw [show (w.alloc (.cells #[.int .i64 p.a, .int .u64 (p.b : Int), .int .u32 (p.s : Int)] 26)).heap.size = w.heap.size + 1 from by simp] at Q1
  rw [show ((w.alloc (.cells #[.int .i64 p.a, .int .u64 (p.b : Int), .int .u32 (p.s : Int)] 26)).alloc (.cells #[.int .i64 q.a, .int .u64 (q.b : Int), .int .u32 (q.s : Int)] 26)).heap.size = w.heap.size + 2 from by simp] at R1
  obtain ⟨c0, c1, c2⟩ := P1.cells
  obtain ⟨c3, c4, c5⟩ := Q1.cells
  obtain ⟨c6, c7, c8⟩ := R1.cells
  have P1 := Lib.hid P1
  have Q1 := Lib.hid Q1
  have R1 := Lib.hid R1
  unfold p3V
  go_enter Try.func7, Try.ntmps7
  go_wp2_with fail
  refine (alive_any _).mono ?_
  rintro e w1 ⟨rfl, hb⟩
  clear c0 c1 c2 c3 c4 c5 c6 c7 c8
  have P1 := Lib.hid (P1.out.next hb)
  have Q1 := Lib.hid (Q1.out.next hb)
  have R1 := Lib.hid (R1.out.next hb)
  obtain ⟨c0, c1, c2⟩ := P1.out.cells
  obtain ⟨c3, c4, c5⟩ := Q1.out.cells
  obtain ⟨c6, c7, c8⟩ := R1.out.cells
  have hq := Lib.hid (hq.out.trans (hb.mono hq.out.size))
  go_wp2
  refine inO_region [(0, fun w' => w'.rangeAt (w.heap.size) (0) ([.int .i64 p.a, .int .u64 (p.b : Int), .int .u32 (p.s : Int)])), (1, fun w' => w'.rangeAt (w.heap.size + 1) (0) ([.int .i64 q.a, .int .u64 (q.b : Int), .int .u32 (q.s : Int)])), (9, fun w' => w'.rangeAt (w.heap.size) (0) ([.int .i64 p.a, .int .u64 (p.b : Int), .int .u32 (p.s : Int)])), (10, fun w' => w'.rangeAt (w.heap.size + 1) (0) ([.int .i64 q.a, .int .u64 (q.b : Int), .int .u32 (q.s : Int)])), (14, fun w' => w'.rangeAt (w.heap.size + 1) (0) ([.int .i64 q.a, .int .u64 (q.b : Int), .int .u32 (q.s : Int)])), (15, fun w' => w'.rangeAt (w.heap.size) (0) ([.int .i64 p.a, .int .u64 (p.b : Int), .int .u32 (p.s : Int)])), (19, fun w' => w'.rangeAt (w.heap.size) (0) ([.int .i64 p.a, .int .u64 (p.b : Int), .int .u32 (p.s : Int)])), (20, fun w' => w'.rangeAt (w.heap.size + 1) (0) ([.int .i64 q.a, .int .u64 (q.b : Int), .int .u32 (q.s : Int)]))] (by kernel_rfl) (Owed.cons ((P1.out.drew.range)) (Owed.cons ((Q1.out.drew.range)) (Owed.cons ((P1.out.drew.range)) (Owed.cons ((Q1.out.drew.range)) (Owed.cons ((Q1.out.drew.range)) (Owed.cons ((P1.out.drew.range)) (Owed.cons ((P1.out.drew.range)) (Owed.cons ((Q1.out.drew.range)) (Owed.nil _ _))))))))) ?_
  refine inO_load 0 ⟨_, _, _, _, _, _⟩ (.agg ([.int .i64 p.a, .int .u64 (p.b : Int), .int .u32 (p.s : Int)]).toArray) (fun w' => w'.rangeAt (w.heap.size) (0) ([.int .i64 p.a, .int .u64 (p.b : Int), .int .u32 (p.s : Int)])) rfl (by kernel_rfl) (by kernel_rfl) (by kernel_rfl) (fun _ _ _ h => h) rfl (.head _) (fun ww hw => exec_load_mid _ _ (by rfl) _ _ (by rfl) _ _ hw Try.underlying26 rfl (infoPtr p)) ?_
  simp only [Act.put, List.setIfInBounds_toArray, List.set_cons_zero, List.set_cons_succ]
  refine inO_load 1 ⟨_, _, _, _, _, _⟩ (.agg ([.int .i64 q.a, .int .u64 (q.b : Int), .int .u32 (q.s : Int)]).toArray) (fun w' => w'.rangeAt (w.heap.size + 1) (0) ([.int .i64 q.a, .int .u64 (q.b : Int), .int .u32 (q.s : Int)])) rfl (by kernel_rfl) (by kernel_rfl) (by kernel_rfl) (fun _ _ _ h => h) rfl (.tail _ (.head _)) (fun ww hw => exec_load_mid _ _ (by rfl) _ _ (by rfl) _ _ hw Try.underlying26 rfl (infoPtr q)) ?_
  simp only [Act.put, List.setIfInBounds_toArray, List.set_cons_zero, List.set_cons_succ]
  refine inO_step 2 ⟨_, _, _, _, _, _⟩ rfl (by kernel_rfl) rfl (fun K hK => ?_)
  refine wp_call Try.func12 (by kernel_rfl) rfl _ _ rfl _ rfl _ (C_pq.out _) fun e v1 h => ?_
  obtain ⟨rfl, hb⟩ := h
  refine ⟨_, rfl, ?_⟩
  have hq := Lib.hid (hq.out.drew.trans (hb.mono hq.out.size))
  have P1 := Lib.hid (P1.out.drew.next hb)
  have Q1 := Lib.hid (Q1.out.drew.next hb)
  have R1 := Lib.hid (R1.out.drew.next hb)
  refine hK _ _ (Keeps.cons (fun h j v hv => keepCell hb (h j v hv)) (Keeps.cons (fun h j v hv => keepCell hb (h j v hv)) (Keeps.cons (fun h j v hv => keepCell hb (h j v hv)) (Keeps.cons (fun h j v hv => keepCell hb (h j v hv)) (Keeps.cons (fun h j v hv => keepCell hb (h j v hv)) (Keeps.cons (fun h j v hv => keepCell hb (h j v hv)) (Keeps.cons (fun h j v hv => keepCell hb (h j v hv)) (Keeps.cons (fun h j v hv => keepCell hb (h j v hv)) (Keeps.nil _ _ _))))))))) ?_
  clear hK K
  simp only [Act.put, List.setIfInBounds_toArray, List.set_cons_zero, List.set_cons_succ]
  refine inO_take 3 ⟨_, _, _, _, _, _⟩ (.bool false) rfl (by kernel_rfl) (by kernel_rfl) (by kernel_rfl) (fun _ _ _ h => h) rfl (fun ww => exec_move (by rfl) (by rfl) ww) ?_
  simp only [Act.put, List.setIfInBounds_toArray, List.set_cons_zero, List.set_cons_succ]
  refine inO_pass 4 ⟨_, _, _, _, _, _⟩ rfl (by kernel_rfl) (by kernel_rfl) (by kernel_rfl) (fun _ _ _ h => h) rfl ?_
  simp only [Act.put, List.setIfInBounds_toArray, List.set_cons_zero, List.set_cons_succ]
  refine inO_pass 5 ⟨_, _, _, _, _, _⟩ rfl (by kernel_rfl) (by kernel_rfl) (by kernel_rfl) (fun _ _ _ h => h) rfl ?_
  simp only [Act.put, List.setIfInBounds_toArray, List.set_cons_zero, List.set_cons_succ]
  refine inO_pass 6 ⟨_, _, _, _, _, _⟩ rfl (by kernel_rfl) (by kernel_rfl) (by kernel_rfl) (fun _ _ _ h => h) rfl ?_
  simp only [Act.put, List.setIfInBounds_toArray, List.set_cons_zero, List.set_cons_succ]
  refine inO_take 7 ⟨_, _, _, _, _, _⟩ (.bool false) rfl (by kernel_rfl) (by kernel_rfl) (by kernel_rfl) (fun _ _ _ h => h) rfl (fun ww => by go_simp) ?_
  simp only [Act.put, List.setIfInBounds_toArray, List.set_cons_zero, List.set_cons_succ]
  refine inO_take 8 ⟨_, _, _, _, _, _⟩ (.bool false) rfl (by kernel_rfl) (by kernel_rfl) (by kernel_rfl) (fun _ _ _ h => h) rfl (fun ww => exec_move (by rfl) (by rfl) ww) ?_
  simp only [Act.put, List.setIfInBounds_toArray, List.set_cons_zero, List.set_cons_succ]
  refine inO_load 9 ⟨_, _, _, _, _, _⟩ (.agg ([.int .i64 p.a, .int .u64 (p.b : Int), .int .u32 (p.s : Int)]).toArray) (fun w' => w'.rangeAt (w.heap.size) (0) ([.int .i64 p.a, .int .u64 (p.b : Int), .int .u32 (p.s : Int)])) rfl (by kernel_rfl) (by kernel_rfl) (by kernel_rfl) (fun _ _ _ h => h) rfl (.tail _ (.tail _ (.head _))) (fun ww hw => exec_load_mid _ _ (by rfl) _ _ (by rfl) _ _ hw Try.underlying26 rfl (infoPtr p)) ?_
  simp only [Act.put, List.setIfInBounds_toArray, List.set_cons_zero, List.set_cons_succ]
  refine inO_load 10 ⟨_, _, _, _, _, _⟩ (.agg ([.int .i64 q.a, .int .u64 (q.b : Int), .int .u32 (q.s : Int)]).toArray) (fun w' => w'.rangeAt (w.heap.size + 1) (0) ([.int .i64 q.a, .int .u64 (q.b : Int), .int .u32 (q.s : Int)])) rfl (by kernel_rfl) (by kernel_rfl) (by kernel_rfl) (fun _ _ _ h => h) rfl (.tail _ (.tail _ (.tail _ (.head _)))) (fun ww hw => exec_load_mid _ _ (by rfl) _ _ (by rfl) _ _ hw Try.underlying26 rfl (infoPtr q)) ?_
  simp only [Act.put, List.setIfInBounds_toArray, List.set_cons_zero, List.set_cons_succ]
  refine inO_load 19 ⟨_, _, _, _, _, _⟩ (.agg ([.int .i64 p.a, .int .u64 (p.b : Int), .int .u32 (p.s : Int)]).toArray) (fun w' => w'.rangeAt (w.heap.size) (0) ([.int .i64 p.a, .int .u64 (p.b : Int), .int .u32 (p.s : Int)])) rfl (by kernel_rfl) (by kernel_rfl) (by kernel_rfl) (fun _ _ _ h => h) rfl (.tail _ (.tail _ (.tail _ (.tail _ (.tail _ (.tail _ (.head _))))))) (fun ww hw => exec_load_mid _ _ (by rfl) _ _ (by rfl) _ _ hw Try.underlying26 rfl (infoPtr p)) ?_
  simp only [Act.put, List.setIfInBounds_toArray, List.set_cons_zero, List.set_cons_succ]
  refine inO_load 20 ⟨_, _, _, _, _, _⟩ (.agg ([.int .i64 q.a, .int .u64 (q.b : Int), .int .u32 (q.s : Int)]).toArray) (fun w' => w'.rangeAt (w.heap.size + 1) (0) ([.int .i64 q.a, .int .u64 (q.b : Int), .int .u32 (q.s : Int)])) rfl (by kernel_rfl) (by kernel_rfl) (by kernel_rfl) (fun _ _ _ h => h) rfl (.tail _ (.tail _ (.tail _ (.tail _ (.tail _ (.tail _ (.tail _ (.head _)))))))) (fun ww hw => exec_load_mid _ _ (by rfl) _ _ (by rfl) _ _ hw Try.underlying26 rfl (infoPtr q)) ?_
  simp only [Act.put, List.setIfInBounds_toArray, List.set_cons_zero, List.set_cons_succ]
  refine inO_take 21 ⟨_, _, _, _, _, _⟩ (.bool false) rfl (by kernel_rfl) (by kernel_rfl) (by kernel_rfl) (fun _ _ _ h => h) rfl (fun ww => by go_simp) ?_
  simp only [Act.put, List.setIfInBounds_toArray, List.set_cons_zero, List.set_cons_succ]
  refine inO_step 11 ⟨_, _, _, _, _, _⟩ rfl (by kernel_rfl) rfl (fun K hK => ?_)
  refine wp_call Try.func12 (by kernel_rfl) rfl _ _ rfl _ rfl _ (C_pq.out _) fun e v2 h => ?_
  obtain ⟨rfl, hb⟩ := h
  refine ⟨_, rfl, ?_⟩
  have hq := Lib.hid (hq.out.trans (hb.mono hq.out.size))
  have P1 := Lib.hid (P1.out.next hb)
  have Q1 := Lib.hid (Q1.out.next hb)
  have R1 := Lib.hid (R1.out.next hb)
  refine hK _ _ (Keeps.cons (fun h j v hv => keepCell hb (h j v hv)) (Keeps.cons (fun h j v hv => keepCell hb (h j v hv)) (Keeps.cons (fun h j v hv => keepCell hb (h j v hv)) (Keeps.cons (fun h j v hv => keepCell hb (h j v hv)) (Keeps.cons (fun h j v hv => keepCell hb (h j v hv)) (Keeps.cons (fun h j v hv => keepCell hb (h j v hv)) (Keeps.cons (fun h j v hv => keepCell hb (h j v hv)) (Keeps.cons (fun h j v hv => keepCell hb (h j v hv)) (Keeps.nil _ _ _))))))))) ?_
  clear hK K
  simp only [Act.put, List.setIfInBounds_toArray, List.set_cons_zero, List.set_cons_succ]
  refine inO_take 12 ⟨_, _, _, _, _, _⟩ (.bool true) rfl (by kernel_rfl) (by kernel_rfl) (by kernel_rfl) (fun _ _ _ h => h) rfl (fun ww => by go_simp) ?_
  simp only [Act.put, List.setIfInBounds_toArray, List.set_cons_zero, List.set_cons_succ]
  refine inO_take 13 ⟨_, _, _, _, _, _⟩ (.bool true) rfl (by kernel_rfl) (by kernel_rfl) (by kernel_rfl) (fun _ _ _ h => h) rfl (fun ww => exec_move (by rfl) (by rfl) ww) ?_
  simp only [Act.put, List.setIfInBounds_toArray, List.set_cons_zero, List.set_cons_succ]
  refine inO_load 14 ⟨_, _, _, _, _, _⟩ (.agg ([.int .i64 q.a, .int .u64 (q.b : Int), .int .u32 (q.s : Int)]).toArray) (fun w' => w'.rangeAt (w.heap.size + 1) (0) ([.int .i64 q.a, .int .u64 (q.b : Int), .int .u32 (q.s : Int)])) rfl (by kernel_rfl) (by kernel_rfl) (by kernel_rfl) (fun _ _ _ h => h) rfl (.tail _ (.tail _ (.tail _ (.tail _ (.head _))))) (fun ww hw => exec_load_mid _ _ (by rfl) _ _ (by rfl) _ _ hw Try.underlying26 rfl (infoPtr q)) ?_
  simp only [Act.put, List.setIfInBounds_toArray, List.set_cons_zero, List.set_cons_succ]
  refine inO_load 15 ⟨_, _, _, _, _, _⟩ (.agg ([.int .i64 p.a, .int .u64 (p.b : Int), .int .u32 (p.s : Int)]).toArray) (fun w' => w'.rangeAt (w.heap.size) (0) ([.int .i64 p.a, .int .u64 (p.b : Int), .int .u32 (p.s : Int)])) rfl (by kernel_rfl) (by kernel_rfl) (by kernel_rfl) (fun _ _ _ h => h) rfl (.tail _ (.tail _ (.tail _ (.tail _ (.tail _ (.head _)))))) (fun ww hw => exec_load_mid _ _ (by rfl) _ _ (by rfl) _ _ hw Try.underlying26 rfl (infoPtr p)) ?_
  simp only [Act.put, List.setIfInBounds_toArray, List.set_cons_zero, List.set_cons_succ]
  refine inO_step 16 ⟨_, _, _, _, _, _⟩ rfl (by kernel_rfl) rfl (fun K hK => ?_)
  refine wp_call Try.func12 (by kernel_rfl) rfl _ _ rfl _ rfl _ (C_qp.out _) fun e v3 h => ?_
  obtain ⟨rfl, hb⟩ := h
  refine ⟨_, rfl, ?_⟩
  have hq := Lib.hid (hq.out.trans (hb.mono hq.out.size))
  have P1 := Lib.hid (P1.out.next hb)
  have Q1 := Lib.hid (Q1.out.next hb)
  have R1 := Lib.hid (R1.out.next hb)
  refine hK _ _ (Keeps.cons (fun h j v hv => keepCell hb (h j v hv)) (Keeps.cons (fun h j v hv => keepCell hb (h j v hv)) (Keeps.cons (fun h j v hv => keepCell hb (h j v hv)) (Keeps.cons (fun h j v hv => keepCell hb (h j v hv)) (Keeps.cons (fun h j v hv => keepCell hb (h j v hv)) (Keeps.cons (fun h j v hv => keepCell hb (h j v hv)) (Keeps.cons (fun h j v hv => keepCell hb (h j v hv)) (Keeps.cons (fun h j v hv => keepCell hb (h j v hv)) (Keeps.nil _ _ _))))))))) ?_
  clear hK K
  simp only [Act.put, List.setIfInBounds_toArray, List.set_cons_zero, List.set_cons_succ]
  refine inO_take 17 ⟨_, _, _, _, _, _⟩ (.bool false) rfl (by kernel_rfl) (by kernel_rfl) (by kernel_rfl) (fun _ _ _ h => h) rfl (fun ww => by go_simp) ?_
  simp only [Act.put, List.setIfInBounds_toArray, List.set_cons_zero, List.set_cons_succ]
  refine inO_take 18 ⟨_, _, _, _, _, _⟩ (.bool false) rfl (by kernel_rfl) (by kernel_rfl) (by kernel_rfl) (fun _ _ _ h => h) rfl (fun ww => by go_simp) ?_
  simp only [Act.put, List.setIfInBounds_toArray, List.set_cons_zero, List.set_cons_succ]
  refine inO_take 22 ⟨_, _, _, _, _, _⟩ (.bool false) rfl (by kernel_rfl) (by kernel_rfl) (by kernel_rfl) (fun _ _ _ h => h) rfl (fun ww => by go_simp) ?_
  simp only [Act.put, List.setIfInBounds_toArray, List.set_cons_zero, List.set_cons_succ]
  refine inO_take 23 ⟨_, _, _, _, _, _⟩ (.bool false) rfl (by kernel_rfl) (by kernel_rfl) (by kernel_rfl) (fun _ _ _ h => h) rfl (fun ww => by go_simp) ?_
  simp only [Act.put, List.setIfInBounds_toArray, List.set_cons_zero, List.set_cons_succ]
  refine inO_done (by kernel_rfl) ?_
  clear c0 c1 c2 c3 c4 c5 c6 c7 c8
  obtain ⟨c0, c1, c2⟩ := P1.out.cells
  obtain ⟨c3, c4, c5⟩ := Q1.out.cells
  obtain ⟨c6, c7, c8⟩ := R1.out.cells
  go_wp2_with fail
  refine (C_pq.out _).mono ?_
  rintro e w3 ⟨rfl, hb⟩
  clear c0 c1 c2 c3 c4 c5 c6 c7 c8
  have P1 := Lib.hid (P1.out.next hb)
  have Q1 := Lib.hid (Q1.out.next hb)
  have R1 := Lib.hid (R1.out.next hb)
  obtain ⟨c0, c1, c2⟩ := P1.out.cells
  obtain ⟨c3, c4, c5⟩ := Q1.out.cells
  obtain ⟨c6, c7, c8⟩ := R1.out.cells
  have hq := Lib.hid (hq.out.trans (hb.mono hq.out.size))
  go_wp2_with fail
  refine (C_si.out _).mono ?_
  rintro e w6 ⟨rfl, hb⟩
  clear c0 c1 c2 c3 c4 c5 c6 c7 c8
  have P1 := Lib.hid (P1.out.next hb)
  have Q1 := Lib.hid (Q1.out.next hb)
  have R1 := Lib.hid (R1.out.next hb)
  obtain ⟨c0, c1, c2⟩ := P1.out.cells
  obtain ⟨c3, c4, c5⟩ := Q1.out.cells
  obtain ⟨c6, c7, c8⟩ := R1.out.cells
  have hq := Lib.hid (hq.out.trans (hb.mono hq.out.size))
  go_wp2
  go_ret
  exact ⟨rfl, hq.out⟩

set_option maxHeartbeats 4000000 in
theorem way_c1 (p q r : P3) (w : World) (hp : p.Fit) (hq0 : q.Fit) (hr0 : r.Fit) (pq : p.lessB q = false) (qp : q.lessB p = false) (eq : p.eqB q = true) (si : p.sinceB r.b = true) (rp : r.lessB p = true) :
    Calls Try.prog 7 #[p3V p, p3V q, p3V r] w fun e w' => e = .returned (.bool true) ∧ Below w.heap.size w w' := by
  have c_pq : ∀ W, Calls Try.prog 12 #[.agg #[.int .i64 p.a, .int .u64 (p.b : Int), .int .u32 (p.s : Int)], .agg #[.int .i64 q.a, .int .u64 (q.b : Int), .int .u32 (q.s : Int)]] W fun e w' => e = .returned (.bool false) ∧ Below W.heap.size W w' := fun W => by have h := Less_any p.a p.b p.s q.a q.b q.s W hp hq0; rw [show P3.lessB ⟨p.a, p.b, p.s⟩ ⟨q.a, q.b, q.s⟩ = false from pq] at h; exact h
  have C_pq := Lib.hid c_pq
  clear c_pq
  have c_qp : ∀ W, Calls Try.prog 12 #[.agg #[.int .i64 q.a, .int .u64 (q.b : Int), .int .u32 (q.s : Int)], .agg #[.int .i64 p.a, .int .u64 (p.b : Int), .int .u32 (p.s : Int)]] W fun e w' => e = .returned (.bool false) ∧ Below W.heap.size W w' := fun W => by have h := Less_any q.a q.b q.s p.a p.b p.s W hq0 hp; rw [show P3.lessB ⟨q.a, q.b, q.s⟩ ⟨p.a, p.b, p.s⟩ = false from qp] at h; exact h
  have C_qp := Lib.hid c_qp
  clear c_qp
  have c_rp : ∀ W, Calls Try.prog 12 #[.agg #[.int .i64 r.a, .int .u64 (r.b : Int), .int .u32 (r.s : Int)], .agg #[.int .i64 p.a, .int .u64 (p.b : Int), .int .u32 (p.s : Int)]] W fun e w' => e = .returned (.bool true) ∧ Below W.heap.size W w' := fun W => by have h := Less_any r.a r.b r.s p.a p.b p.s W hr0 hp; rw [show P3.lessB ⟨r.a, r.b, r.s⟩ ⟨p.a, p.b, p.s⟩ = true from rp] at h; exact h
  have C_rp := Lib.hid c_rp
  clear c_rp
  have c_si : ∀ W, Calls Try.prog 14 #[.agg #[.int .i64 p.a, .int .u64 (p.b : Int), .int .u32 (p.s : Int)], .int .u64 (r.b : Int)] W fun e w' => e = .returned (.bool true) ∧ Below W.heap.size W w' := fun W => by have h := Since_any p.a p.b p.s r.b W hp hr0.2.1; rw [show P3.sinceB ⟨p.a, p.b, p.s⟩ r.b = true from si] at h; exact h
  have C_si := Lib.hid c_si
  clear c_si
  have hE : ∀ W, (Op.equalIn 10000 26 (.agg #[.int .i64 p.a, .int .u64 (p.b : Int), .int .u32 (p.s : Int)]) (.agg #[.int .i64 q.a, .int .u64 (q.b : Int), .int .u32 (q.s : Int)])).run Try.prog W = .ok true W := fun W => by rw [← eq]; exact eqPtr W p q
  clear hp hq0 hr0 eq si pq qp rp
  have hq := Lib.hid ((((Below.refl w.heap.size w).alloc (Nat.le_refl _) (.cells #[.int .i64 p.a, .int .u64 (p.b : Int), .int .u32 (p.s : Int)] 26)).alloc (by simp) (.cells #[.int .i64 q.a, .int .u64 (q.b : Int), .int .u32 (q.s : Int)] 26)).alloc (by simp; omega) (.cells #[.int .i64 r.a, .int .u64 (r.b : Int), .int .u32 (r.s : Int)] 26))
  have P1 := ((PtrAt.first w p).alloc (.cells #[.int .i64 q.a, .int .u64 (q.b : Int), .int .u32 (q.s : Int)] 26)).alloc (.cells #[.int .i64 r.a, .int .u64 (r.b : Int), .int .u32 (r.s : Int)] 26)
  have Q1 := (PtrAt.first (w.alloc (.cells #[.int .i64 p.a, .int .u64 (p.b : Int), .int .u32 (p.s : Int)] 26)) q).alloc (.cells #[.int .i64 r.a, .int .u64 (r.b : Int), .int .u32 (r.s : Int)] 26)
  have R1 := PtrAt.first ((w.alloc (.cells #[.int .i64 p.a, .int .u64 (p.b : Int), .int .u32 (p.s : Int)] 26)).alloc (.cells #[.int .i64 q.a, .int .u64 (q.b : Int), .int .u32 (q.s : Int)] 26)) r
  rw [show (w.alloc (.cells #[.int .i64 p.a, .int .u64 (p.b : Int), .int .u32 (p.s : Int)] 26)).heap.size = w.heap.size + 1 from by simp] at Q1
  rw [show ((w.alloc (.cells #[.int .i64 p.a, .int .u64 (p.b : Int), .int .u32 (p.s : Int)] 26)).alloc (.cells #[.int .i64 q.a, .int .u64 (q.b : Int), .int .u32 (q.s : Int)] 26)).heap.size = w.heap.size + 2 from by simp] at R1
  obtain ⟨c0, c1, c2⟩ := P1.cells
  obtain ⟨c3, c4, c5⟩ := Q1.cells
  obtain ⟨c6, c7, c8⟩ := R1.cells
  have P1 := Lib.hid P1
  have Q1 := Lib.hid Q1
  have R1 := Lib.hid R1
  unfold p3V
  go_enter Try.func7, Try.ntmps7
  go_wp2_with fail
  refine (alive_any _).mono ?_
  rintro e w1 ⟨rfl, hb⟩
  clear c0 c1 c2 c3 c4 c5 c6 c7 c8
  have P1 := Lib.hid (P1.out.next hb)
  have Q1 := Lib.hid (Q1.out.next hb)
  have R1 := Lib.hid (R1.out.next hb)
  obtain ⟨c0, c1, c2⟩ := P1.out.cells
  obtain ⟨c3, c4, c5⟩ := Q1.out.cells
  obtain ⟨c6, c7, c8⟩ := R1.out.cells
  have hq := Lib.hid (hq.out.trans (hb.mono hq.out.size))
  go_wp2
  refine inO_region [(0, fun w' => w'.rangeAt (w.heap.size) (0) ([.int .i64 p.a, .int .u64 (p.b : Int), .int .u32 (p.s : Int)])), (1, fun w' => w'.rangeAt (w.heap.size + 1) (0) ([.int .i64 q.a, .int .u64 (q.b : Int), .int .u32 (q.s : Int)])), (9, fun w' => w'.rangeAt (w.heap.size) (0) ([.int .i64 p.a, .int .u64 (p.b : Int), .int .u32 (p.s : Int)])), (10, fun w' => w'.rangeAt (w.heap.size + 1) (0) ([.int .i64 q.a, .int .u64 (q.b : Int), .int .u32 (q.s : Int)])), (14, fun w' => w'.rangeAt (w.heap.size + 1) (0) ([.int .i64 q.a, .int .u64 (q.b : Int), .int .u32 (q.s : Int)])), (15, fun w' => w'.rangeAt (w.heap.size) (0) ([.int .i64 p.a, .int .u64 (p.b : Int), .int .u32 (p.s : Int)])), (19, fun w' => w'.rangeAt (w.heap.size) (0) ([.int .i64 p.a, .int .u64 (p.b : Int), .int .u32 (p.s : Int)])), (20, fun w' => w'.rangeAt (w.heap.size + 1) (0) ([.int .i64 q.a, .int .u64 (q.b : Int), .int .u32 (q.s : Int)]))] (by kernel_rfl) (Owed.cons ((P1.out.drew.range)) (Owed.cons ((Q1.out.drew.range)) (Owed.cons ((P1.out.drew.range)) (Owed.cons ((Q1.out.drew.range)) (Owed.cons ((Q1.out.drew.range)) (Owed.cons ((P1.out.drew.range)) (Owed.cons ((P1.out.drew.range)) (Owed.cons ((Q1.out.drew.range)) (Owed.nil _ _))))))))) ?_
  refine inO_load 0 ⟨_, _, _, _, _, _⟩ (.agg ([.int .i64 p.a, .int .u64 (p.b : Int), .int .u32 (p.s : Int)]).toArray) (fun w' => w'.rangeAt (w.heap.size) (0) ([.int .i64 p.a, .int .u64 (p.b : Int), .int .u32 (p.s : Int)])) rfl (by kernel_rfl) (by kernel_rfl) (by kernel_rfl) (fun _ _ _ h => h) rfl (.head _) (fun ww hw => exec_load_mid _ _ (by rfl) _ _ (by rfl) _ _ hw Try.underlying26 rfl (infoPtr p)) ?_
  simp only [Act.put, List.setIfInBounds_toArray, List.set_cons_zero, List.set_cons_succ]
  refine inO_load 1 ⟨_, _, _, _, _, _⟩ (.agg ([.int .i64 q.a, .int .u64 (q.b : Int), .int .u32 (q.s : Int)]).toArray) (fun w' => w'.rangeAt (w.heap.size + 1) (0) ([.int .i64 q.a, .int .u64 (q.b : Int), .int .u32 (q.s : Int)])) rfl (by kernel_rfl) (by kernel_rfl) (by kernel_rfl) (fun _ _ _ h => h) rfl (.tail _ (.head _)) (fun ww hw => exec_load_mid _ _ (by rfl) _ _ (by rfl) _ _ hw Try.underlying26 rfl (infoPtr q)) ?_
  simp only [Act.put, List.setIfInBounds_toArray, List.set_cons_zero, List.set_cons_succ]
  refine inO_step 2 ⟨_, _, _, _, _, _⟩ rfl (by kernel_rfl) rfl (fun K hK => ?_)
  refine wp_call Try.func12 (by kernel_rfl) rfl _ _ rfl _ rfl _ (C_pq.out _) fun e v1 h => ?_
  obtain ⟨rfl, hb⟩ := h
  refine ⟨_, rfl, ?_⟩
  have hq := Lib.hid (hq.out.drew.trans (hb.mono hq.out.size))
  have P1 := Lib.hid (P1.out.drew.next hb)
  have Q1 := Lib.hid (Q1.out.drew.next hb)
  have R1 := Lib.hid (R1.out.drew.next hb)
  refine hK _ _ (Keeps.cons (fun h j v hv => keepCell hb (h j v hv)) (Keeps.cons (fun h j v hv => keepCell hb (h j v hv)) (Keeps.cons (fun h j v hv => keepCell hb (h j v hv)) (Keeps.cons (fun h j v hv => keepCell hb (h j v hv)) (Keeps.cons (fun h j v hv => keepCell hb (h j v hv)) (Keeps.cons (fun h j v hv => keepCell hb (h j v hv)) (Keeps.cons (fun h j v hv => keepCell hb (h j v hv)) (Keeps.cons (fun h j v hv => keepCell hb (h j v hv)) (Keeps.nil _ _ _))))))))) ?_
  clear hK K
  simp only [Act.put, List.setIfInBounds_toArray, List.set_cons_zero, List.set_cons_succ]
  refine inO_take 3 ⟨_, _, _, _, _, _⟩ (.bool false) rfl (by kernel_rfl) (by kernel_rfl) (by kernel_rfl) (fun _ _ _ h => h) rfl (fun ww => exec_move (by rfl) (by rfl) ww) ?_
  simp only [Act.put, List.setIfInBounds_toArray, List.set_cons_zero, List.set_cons_succ]
  refine inO_pass 4 ⟨_, _, _, _, _, _⟩ rfl (by kernel_rfl) (by kernel_rfl) (by kernel_rfl) (fun _ _ _ h => h) rfl ?_
  simp only [Act.put, List.setIfInBounds_toArray, List.set_cons_zero, List.set_cons_succ]
  refine inO_pass 5 ⟨_, _, _, _, _, _⟩ rfl (by kernel_rfl) (by kernel_rfl) (by kernel_rfl) (fun _ _ _ h => h) rfl ?_
  simp only [Act.put, List.setIfInBounds_toArray, List.set_cons_zero, List.set_cons_succ]
  refine inO_pass 6 ⟨_, _, _, _, _, _⟩ rfl (by kernel_rfl) (by kernel_rfl) (by kernel_rfl) (fun _ _ _ h => h) rfl ?_
  simp only [Act.put, List.setIfInBounds_toArray, List.set_cons_zero, List.set_cons_succ]
  refine inO_take 7 ⟨_, _, _, _, _, _⟩ (.bool false) rfl (by kernel_rfl) (by kernel_rfl) (by kernel_rfl) (fun _ _ _ h => h) rfl (fun ww => by go_simp) ?_
  simp only [Act.put, List.setIfInBounds_toArray, List.set_cons_zero, List.set_cons_succ]
  refine inO_take 8 ⟨_, _, _, _, _, _⟩ (.bool false) rfl (by kernel_rfl) (by kernel_rfl) (by kernel_rfl) (fun _ _ _ h => h) rfl (fun ww => exec_move (by rfl) (by rfl) ww) ?_
  simp only [Act.put, List.setIfInBounds_toArray, List.set_cons_zero, List.set_cons_succ]
  refine inO_load 9 ⟨_, _, _, _, _, _⟩ (.agg ([.int .i64 p.a, .int .u64 (p.b : Int), .int .u32 (p.s : Int)]).toArray) (fun w' => w'.rangeAt (w.heap.size) (0) ([.int .i64 p.a, .int .u64 (p.b : Int), .int .u32 (p.s : Int)])) rfl (by kernel_rfl) (by kernel_rfl) (by kernel_rfl) (fun _ _ _ h => h) rfl (.tail _ (.tail _ (.head _))) (fun ww hw => exec_load_mid _ _ (by rfl) _ _ (by rfl) _ _ hw Try.underlying26 rfl (infoPtr p)) ?_
  simp only [Act.put, List.setIfInBounds_toArray, List.set_cons_zero, List.set_cons_succ]
  refine inO_load 10 ⟨_, _, _, _, _, _⟩ (.agg ([.int .i64 q.a, .int .u64 (q.b : Int), .int .u32 (q.s : Int)]).toArray) (fun w' => w'.rangeAt (w.heap.size + 1) (0) ([.int .i64 q.a, .int .u64 (q.b : Int), .int .u32 (q.s : Int)])) rfl (by kernel_rfl) (by kernel_rfl) (by kernel_rfl) (fun _ _ _ h => h) rfl (.tail _ (.tail _ (.tail _ (.head _)))) (fun ww hw => exec_load_mid _ _ (by rfl) _ _ (by rfl) _ _ hw Try.underlying26 rfl (infoPtr q)) ?_
  simp only [Act.put, List.setIfInBounds_toArray, List.set_cons_zero, List.set_cons_succ]
  refine inO_load 19 ⟨_, _, _, _, _, _⟩ (.agg ([.int .i64 p.a, .int .u64 (p.b : Int), .int .u32 (p.s : Int)]).toArray) (fun w' => w'.rangeAt (w.heap.size) (0) ([.int .i64 p.a, .int .u64 (p.b : Int), .int .u32 (p.s : Int)])) rfl (by kernel_rfl) (by kernel_rfl) (by kernel_rfl) (fun _ _ _ h => h) rfl (.tail _ (.tail _ (.tail _ (.tail _ (.tail _ (.tail _ (.head _))))))) (fun ww hw => exec_load_mid _ _ (by rfl) _ _ (by rfl) _ _ hw Try.underlying26 rfl (infoPtr p)) ?_
  simp only [Act.put, List.setIfInBounds_toArray, List.set_cons_zero, List.set_cons_succ]
  refine inO_load 20 ⟨_, _, _, _, _, _⟩ (.agg ([.int .i64 q.a, .int .u64 (q.b : Int), .int .u32 (q.s : Int)]).toArray) (fun w' => w'.rangeAt (w.heap.size + 1) (0) ([.int .i64 q.a, .int .u64 (q.b : Int), .int .u32 (q.s : Int)])) rfl (by kernel_rfl) (by kernel_rfl) (by kernel_rfl) (fun _ _ _ h => h) rfl (.tail _ (.tail _ (.tail _ (.tail _ (.tail _ (.tail _ (.tail _ (.head _)))))))) (fun ww hw => exec_load_mid _ _ (by rfl) _ _ (by rfl) _ _ hw Try.underlying26 rfl (infoPtr q)) ?_
  simp only [Act.put, List.setIfInBounds_toArray, List.set_cons_zero, List.set_cons_succ]
  refine inO_take 21 ⟨_, _, _, _, _, _⟩ (.bool true) rfl (by kernel_rfl) (by kernel_rfl) (by kernel_rfl) (fun _ _ _ h => h) rfl (fun ww => by go_simp) ?_
  simp only [Act.put, List.setIfInBounds_toArray, List.set_cons_zero, List.set_cons_succ]
  refine inO_step 11 ⟨_, _, _, _, _, _⟩ rfl (by kernel_rfl) rfl (fun K hK => ?_)
  refine wp_call Try.func12 (by kernel_rfl) rfl _ _ rfl _ rfl _ (C_pq.out _) fun e v2 h => ?_
  obtain ⟨rfl, hb⟩ := h
  refine ⟨_, rfl, ?_⟩
  have hq := Lib.hid (hq.out.trans (hb.mono hq.out.size))
  have P1 := Lib.hid (P1.out.next hb)
  have Q1 := Lib.hid (Q1.out.next hb)
  have R1 := Lib.hid (R1.out.next hb)
  refine hK _ _ (Keeps.cons (fun h j v hv => keepCell hb (h j v hv)) (Keeps.cons (fun h j v hv => keepCell hb (h j v hv)) (Keeps.cons (fun h j v hv => keepCell hb (h j v hv)) (Keeps.cons (fun h j v hv => keepCell hb (h j v hv)) (Keeps.cons (fun h j v hv => keepCell hb (h j v hv)) (Keeps.cons (fun h j v hv => keepCell hb (h j v hv)) (Keeps.cons (fun h j v hv => keepCell hb (h j v hv)) (Keeps.cons (fun h j v hv => keepCell hb (h j v hv)) (Keeps.nil _ _ _))))))))) ?_
  clear hK K
  simp only [Act.put, List.setIfInBounds_toArray, List.set_cons_zero, List.set_cons_succ]
  refine inO_take 12 ⟨_, _, _, _, _, _⟩ (.bool true) rfl (by kernel_rfl) (by kernel_rfl) (by kernel_rfl) (fun _ _ _ h => h) rfl (fun ww => by go_simp) ?_
  simp only [Act.put, List.setIfInBounds_toArray, List.set_cons_zero, List.set_cons_succ]
  refine inO_take 13 ⟨_, _, _, _, _, _⟩ (.bool true) rfl (by kernel_rfl) (by kernel_rfl) (by kernel_rfl) (fun _ _ _ h => h) rfl (fun ww => exec_move (by rfl) (by rfl) ww) ?_
  simp only [Act.put, List.setIfInBounds_toArray, List.set_cons_zero, List.set_cons_succ]
  refine inO_load 14 ⟨_, _, _, _, _, _⟩ (.agg ([.int .i64 q.a, .int .u64 (q.b : Int), .int .u32 (q.s : Int)]).toArray) (fun w' => w'.rangeAt (w.heap.size + 1) (0) ([.int .i64 q.a, .int .u64 (q.b : Int), .int .u32 (q.s : Int)])) rfl (by kernel_rfl) (by kernel_rfl) (by kernel_rfl) (fun _ _ _ h => h) rfl (.tail _ (.tail _ (.tail _ (.tail _ (.head _))))) (fun ww hw => exec_load_mid _ _ (by rfl) _ _ (by rfl) _ _ hw Try.underlying26 rfl (infoPtr q)) ?_
  simp only [Act.put, List.setIfInBounds_toArray, List.set_cons_zero, List.set_cons_succ]
  refine inO_load 15 ⟨_, _, _, _, _, _⟩ (.agg ([.int .i64 p.a, .int .u64 (p.b : Int), .int .u32 (p.s : Int)]).toArray) (fun w' => w'.rangeAt (w.heap.size) (0) ([.int .i64 p.a, .int .u64 (p.b : Int), .int .u32 (p.s : Int)])) rfl (by kernel_rfl) (by kernel_rfl) (by kernel_rfl) (fun _ _ _ h => h) rfl (.tail _ (.tail _ (.tail _ (.tail _ (.tail _ (.head _)))))) (fun ww hw => exec_load_mid _ _ (by rfl) _ _ (by rfl) _ _ hw Try.underlying26 rfl (infoPtr p)) ?_
  simp only [Act.put, List.setIfInBounds_toArray, List.set_cons_zero, List.set_cons_succ]
  refine inO_step 16 ⟨_, _, _, _, _, _⟩ rfl (by kernel_rfl) rfl (fun K hK => ?_)
  refine wp_call Try.func12 (by kernel_rfl) rfl _ _ rfl _ rfl _ (C_qp.out _) fun e v3 h => ?_
  obtain ⟨rfl, hb⟩ := h
  refine ⟨_, rfl, ?_⟩
  have hq := Lib.hid (hq.out.trans (hb.mono hq.out.size))
  have P1 := Lib.hid (P1.out.next hb)
  have Q1 := Lib.hid (Q1.out.next hb)
  have R1 := Lib.hid (R1.out.next hb)
  refine hK _ _ (Keeps.cons (fun h j v hv => keepCell hb (h j v hv)) (Keeps.cons (fun h j v hv => keepCell hb (h j v hv)) (Keeps.cons (fun h j v hv => keepCell hb (h j v hv)) (Keeps.cons (fun h j v hv => keepCell hb (h j v hv)) (Keeps.cons (fun h j v hv => keepCell hb (h j v hv)) (Keeps.cons (fun h j v hv => keepCell hb (h j v hv)) (Keeps.cons (fun h j v hv => keepCell hb (h j v hv)) (Keeps.cons (fun h j v hv => keepCell hb (h j v hv)) (Keeps.nil _ _ _))))))))) ?_
  clear hK K
  simp only [Act.put, List.setIfInBounds_toArray, List.set_cons_zero, List.set_cons_succ]
  refine inO_take 17 ⟨_, _, _, _, _, _⟩ (.bool true) rfl (by kernel_rfl) (by kernel_rfl) (by kernel_rfl) (fun _ _ _ h => h) rfl (fun ww => by go_simp) ?_
  simp only [Act.put, List.setIfInBounds_toArray, List.set_cons_zero, List.set_cons_succ]
  refine inO_take 18 ⟨_, _, _, _, _, _⟩ (.bool true) rfl (by kernel_rfl) (by kernel_rfl) (by kernel_rfl) (fun _ _ _ h => h) rfl (fun ww => by go_simp) ?_
  simp only [Act.put, List.setIfInBounds_toArray, List.set_cons_zero, List.set_cons_succ]
  refine inO_take 22 ⟨_, _, _, _, _, _⟩ (.bool false) rfl (by kernel_rfl) (by kernel_rfl) (by kernel_rfl) (fun _ _ _ h => h) rfl (fun ww => by go_simp) ?_
  simp only [Act.put, List.setIfInBounds_toArray, List.set_cons_zero, List.set_cons_succ]
  refine inO_take 23 ⟨_, _, _, _, _, _⟩ (.bool false) rfl (by kernel_rfl) (by kernel_rfl) (by kernel_rfl) (fun _ _ _ h => h) rfl (fun ww => by go_simp) ?_
  simp only [Act.put, List.setIfInBounds_toArray, List.set_cons_zero, List.set_cons_succ]
  refine inO_done (by kernel_rfl) ?_
  clear c0 c1 c2 c3 c4 c5 c6 c7 c8
  obtain ⟨c0, c1, c2⟩ := P1.out.cells
  obtain ⟨c3, c4, c5⟩ := Q1.out.cells
  obtain ⟨c6, c7, c8⟩ := R1.out.cells
  go_wp2_with fail
  refine (C_pq.out _).mono ?_
  rintro e w3 ⟨rfl, hb⟩
  clear c0 c1 c2 c3 c4 c5 c6 c7 c8
  have P1 := Lib.hid (P1.out.next hb)
  have Q1 := Lib.hid (Q1.out.next hb)
  have R1 := Lib.hid (R1.out.next hb)
  obtain ⟨c0, c1, c2⟩ := P1.out.cells
  obtain ⟨c3, c4, c5⟩ := Q1.out.cells
  obtain ⟨c6, c7, c8⟩ := R1.out.cells
  have hq := Lib.hid (hq.out.trans (hb.mono hq.out.size))
  go_wp2_with fail
  refine (C_si.out _).mono ?_
  rintro e w6 ⟨rfl, hb⟩
  clear c0 c1 c2 c3 c4 c5 c6 c7 c8
  have P1 := Lib.hid (P1.out.next hb)
  have Q1 := Lib.hid (Q1.out.next hb)
  have R1 := Lib.hid (R1.out.next hb)
  obtain ⟨c0, c1, c2⟩ := P1.out.cells
  obtain ⟨c3, c4, c5⟩ := Q1.out.cells
  obtain ⟨c6, c7, c8⟩ := R1.out.cells
  have hq := Lib.hid (hq.out.trans (hb.mono hq.out.size))
  go_wp2_with fail
  refine (C_rp.out _).mono ?_
  rintro e w7 ⟨rfl, hb⟩
  clear c0 c1 c2 c3 c4 c5 c6 c7 c8
  have P1 := Lib.hid (P1.out.next hb)
  have Q1 := Lib.hid (Q1.out.next hb)
  have R1 := Lib.hid (R1.out.next hb)
  obtain ⟨c0, c1, c2⟩ := P1.out.cells
  obtain ⟨c3, c4, c5⟩ := Q1.out.cells
  obtain ⟨c6, c7, c8⟩ := R1.out.cells
  have hq := Lib.hid (hq.out.trans (hb.mono hq.out.size))
  go_wp2
  go_ret
  exact ⟨rfl, hq.out⟩

set_option maxHeartbeats 4000000 in
theorem way_c2 (p q r : P3) (w : World) (hp : p.Fit) (hq0 : q.Fit) (hr0 : r.Fit) (pq : p.lessB q = false) (qp : q.lessB p = false) (eq : p.eqB q = true) (si : p.sinceB r.b = false) :
    Calls Try.prog 7 #[p3V p, p3V q, p3V r] w fun e w' => e = .returned (.bool true) ∧ Below w.heap.size w w' := by
  have c_pq : ∀ W, Calls Try.prog 12 #[.agg #[.int .i64 p.a, .int .u64 (p.b : Int), .int .u32 (p.s : Int)], .agg #[.int .i64 q.a, .int .u64 (q.b : Int), .int .u32 (q.s : Int)]] W fun e w' => e = .returned (.bool false) ∧ Below W.heap.size W w' := fun W => by have h := Less_any p.a p.b p.s q.a q.b q.s W hp hq0; rw [show P3.lessB ⟨p.a, p.b, p.s⟩ ⟨q.a, q.b, q.s⟩ = false from pq] at h; exact h
  have C_pq := Lib.hid c_pq
  clear c_pq
  have c_qp : ∀ W, Calls Try.prog 12 #[.agg #[.int .i64 q.a, .int .u64 (q.b : Int), .int .u32 (q.s : Int)], .agg #[.int .i64 p.a, .int .u64 (p.b : Int), .int .u32 (p.s : Int)]] W fun e w' => e = .returned (.bool false) ∧ Below W.heap.size W w' := fun W => by have h := Less_any q.a q.b q.s p.a p.b p.s W hq0 hp; rw [show P3.lessB ⟨q.a, q.b, q.s⟩ ⟨p.a, p.b, p.s⟩ = false from qp] at h; exact h
  have C_qp := Lib.hid c_qp
  clear c_qp
  have c_si : ∀ W, Calls Try.prog 14 #[.agg #[.int .i64 p.a, .int .u64 (p.b : Int), .int .u32 (p.s : Int)], .int .u64 (r.b : Int)] W fun e w' => e = .returned (.bool false) ∧ Below W.heap.size W w' := fun W => by have h := Since_any p.a p.b p.s r.b W hp hr0.2.1; rw [show P3.sinceB ⟨p.a, p.b, p.s⟩ r.b = false from si] at h; exact h
  have C_si := Lib.hid c_si
  clear c_si
  have hE : ∀ W, (Op.equalIn 10000 26 (.agg #[.int .i64 p.a, .int .u64 (p.b : Int), .int .u32 (p.s : Int)]) (.agg #[.int .i64 q.a, .int .u64 (q.b : Int), .int .u32 (q.s : Int)])).run Try.prog W = .ok true W := fun W => by rw [← eq]; exact eqPtr W p q
  clear hp hq0 hr0 eq si pq qp
  have hq := Lib.hid ((((Below.refl w.heap.size w).alloc (Nat.le_refl _) (.cells #[.int .i64 p.a, .int .u64 (p.b : Int), .int .u32 (p.s : Int)] 26)).alloc (by simp) (.cells #[.int .i64 q.a, .int .u64 (q.b : Int), .int .u32 (q.s : Int)] 26)).alloc (by simp; omega) (.cells #[.int .i64 r.a, .int .u64 (r.b : Int), .int .u32 (r.s : Int)] 26))
  have P1 := ((PtrAt.first w p).alloc (.cells #[.int .i64 q.a, .int .u64 (q.b : Int), .int .u32 (q.s : Int)] 26)).alloc (.cells #[.int .i64 r.a, .int .u64 (r.b : Int), .int .u32 (r.s : Int)] 26)
  have Q1 := (PtrAt.first (w.alloc (.cells #[.int .i64 p.a, .int .u64 (p.b : Int), .int .u32 (p.s : Int)] 26)) q).alloc (.cells #[.int .i64 r.a, .int .u64 (r.b : Int), .int .u32 (r.s : Int)] 26)
  have R1 := PtrAt.first ((w.alloc (.cells #[.int .i64 p.a, .int .u64 (p.b : Int), .int .u32 (p.s : Int)] 26)).alloc (.cells #[.int .i64 q.a, .int .u64 (q.b : Int), .int .u32 (q.s : Int)] 26)) r
  rw [show (w.alloc (.cells #[.int .i64 p.a, .int .u64 (p.b : Int), .int .u32 (p.s : Int)] 26)).heap.size = w.heap.size + 1 from by simp] at Q1
  rw [show ((w.alloc (.cells #[.int .i64 p.a, .int .u64 (p.b : Int), .int .u32 (p.s : Int)] 26)).alloc (.cells #[.int .i64 q.a, .int .u64 (q.b : Int), .int .u32 (q.s : Int)] 26)).heap.size = w.heap.size + 2 from by simp] at R1
  obtain ⟨c0, c1, c2⟩ := P1.cells
  obtain ⟨c3, c4, c5⟩ := Q1.cells
  obtain ⟨c6, c7, c8⟩ := R1.cells
  have P1 := Lib.hid P1
  have Q1 := Lib.hid Q1
  have R1 := Lib.hid R1
  unfold p3V
  go_enter Try.func7, Try.ntmps7
  go_wp2_with fail
  refine (alive_any _).mono ?_
  rintro e w1 ⟨rfl, hb⟩
  clear c0 c1 c2 c3 c4 c5 c6 c7 c8
  have P1 := Lib.hid (P1.out.next hb)
  have Q1 := Lib.hid (Q1.out.next hb)
  have R1 := Lib.hid (R1.out.next hb)
  obtain ⟨c0, c1, c2⟩ := P1.out.cells
  obtain ⟨c3, c4, c5⟩ := Q1.out.cells
  obtain ⟨c6, c7, c8⟩ := R1.out.cells
  have hq := Lib.hid (hq.out.trans (hb.mono hq.out.size))
  go_wp2
  refine inO_region [(0, fun w' => w'.rangeAt (w.heap.size) (0) ([.int .i64 p.a, .int .u64 (p.b : Int), .int .u32 (p.s : Int)])), (1, fun w' => w'.rangeAt (w.heap.size + 1) (0) ([.int .i64 q.a, .int .u64 (q.b : Int), .int .u32 (q.s : Int)])), (9, fun w' => w'.rangeAt (w.heap.size) (0) ([.int .i64 p.a, .int .u64 (p.b : Int), .int .u32 (p.s : Int)])), (10, fun w' => w'.rangeAt (w.heap.size + 1) (0) ([.int .i64 q.a, .int .u64 (q.b : Int), .int .u32 (q.s : Int)])), (14, fun w' => w'.rangeAt (w.heap.size + 1) (0) ([.int .i64 q.a, .int .u64 (q.b : Int), .int .u32 (q.s : Int)])), (15, fun w' => w'.rangeAt (w.heap.size) (0) ([.int .i64 p.a, .int .u64 (p.b : Int), .int .u32 (p.s : Int)])), (19, fun w' => w'.rangeAt (w.heap.size) (0) ([.int .i64 p.a, .int .u64 (p.b : Int), .int .u32 (p.s : Int)])), (20, fun w' => w'.rangeAt (w.heap.size + 1) (0) ([.int .i64 q.a, .int .u64 (q.b : Int), .int .u32 (q.s : Int)]))] (by kernel_rfl) (Owed.cons ((P1.out.drew.range)) (Owed.cons ((Q1.out.drew.range)) (Owed.cons ((P1.out.drew.range)) (Owed.cons ((Q1.out.drew.range)) (Owed.cons ((Q1.out.drew.range)) (Owed.cons ((P1.out.drew.range)) (Owed.cons ((P1.out.drew.range)) (Owed.cons ((Q1.out.drew.range)) (Owed.nil _ _))))))))) ?_
  refine inO_load 0 ⟨_, _, _, _, _, _⟩ (.agg ([.int .i64 p.a, .int .u64 (p.b : Int), .int .u32 (p.s : Int)]).toArray) (fun w' => w'.rangeAt (w.heap.size) (0) ([.int .i64 p.a, .int .u64 (p.b : Int), .int .u32 (p.s : Int)])) rfl (by kernel_rfl) (by kernel_rfl) (by kernel_rfl) (fun _ _ _ h => h) rfl (.head _) (fun ww hw => exec_load_mid _ _ (by rfl) _ _ (by rfl) _ _ hw Try.underlying26 rfl (infoPtr p)) ?_
  simp only [Act.put, List.setIfInBounds_toArray, List.set_cons_zero, List.set_cons_succ]
  refine inO_load 1 ⟨_, _, _, _, _, _⟩ (.agg ([.int .i64 q.a, .int .u64 (q.b : Int), .int .u32 (q.s : Int)]).toArray) (fun w' => w'.rangeAt (w.heap.size + 1) (0) ([.int .i64 q.a, .int .u64 (q.b : Int), .int .u32 (q.s : Int)])) rfl (by kernel_rfl) (by kernel_rfl) (by kernel_rfl) (fun _ _ _ h => h) rfl (.tail _ (.head _)) (fun ww hw => exec_load_mid _ _ (by rfl) _ _ (by rfl) _ _ hw Try.underlying26 rfl (infoPtr q)) ?_
  simp only [Act.put, List.setIfInBounds_toArray, List.set_cons_zero, List.set_cons_succ]
  refine inO_step 2 ⟨_, _, _, _, _, _⟩ rfl (by kernel_rfl) rfl (fun K hK => ?_)
  refine wp_call Try.func12 (by kernel_rfl) rfl _ _ rfl _ rfl _ (C_pq.out _) fun e v1 h => ?_
  obtain ⟨rfl, hb⟩ := h
  refine ⟨_, rfl, ?_⟩
  have hq := Lib.hid (hq.out.drew.trans (hb.mono hq.out.size))
  have P1 := Lib.hid (P1.out.drew.next hb)
  have Q1 := Lib.hid (Q1.out.drew.next hb)
  have R1 := Lib.hid (R1.out.drew.next hb)
  refine hK _ _ (Keeps.cons (fun h j v hv => keepCell hb (h j v hv)) (Keeps.cons (fun h j v hv => keepCell hb (h j v hv)) (Keeps.cons (fun h j v hv => keepCell hb (h j v hv)) (Keeps.cons (fun h j v hv => keepCell hb (h j v hv)) (Keeps.cons (fun h j v hv => keepCell hb (h j v hv)) (Keeps.cons (fun h j v hv => keepCell hb (h j v hv)) (Keeps.cons (fun h j v hv => keepCell hb (h j v hv)) (Keeps.cons (fun h j v hv => keepCell hb (h j v hv)) (Keeps.nil _ _ _))))))))) ?_
  clear hK K
  simp only [Act.put, List.setIfInBounds_toArray, List.set_cons_zero, List.set_cons_succ]
  refine inO_take 3 ⟨_, _, _, _, _, _⟩ (.bool false) rfl (by kernel_rfl) (by kernel_rfl) (by kernel_rfl) (fun _ _ _ h => h) rfl (fun ww => exec_move (by rfl) (by rfl) ww) ?_
  simp only [Act.put, List.setIfInBounds_toArray, List.set_cons_zero, List.set_cons_succ]
  refine inO_pass 4 ⟨_, _, _, _, _, _⟩ rfl (by kernel_rfl) (by kernel_rfl) (by kernel_rfl) (fun _ _ _ h => h) rfl ?_
  simp only [Act.put, List.setIfInBounds_toArray, List.set_cons_zero, List.set_cons_succ]
  refine inO_pass 5 ⟨_, _, _, _, _, _⟩ rfl (by kernel_rfl) (by kernel_rfl) (by kernel_rfl) (fun _ _ _ h => h) rfl ?_
  simp only [Act.put, List.setIfInBounds_toArray, List.set_cons_zero, List.set_cons_succ]
  refine inO_pass 6 ⟨_, _, _, _, _, _⟩ rfl (by kernel_rfl) (by kernel_rfl) (by kernel_rfl) (fun _ _ _ h => h) rfl ?_
  simp only [Act.put, List.setIfInBounds_toArray, List.set_cons_zero, List.set_cons_succ]
  refine inO_take 7 ⟨_, _, _, _, _, _⟩ (.bool false) rfl (by kernel_rfl) (by kernel_rfl) (by kernel_rfl) (fun _ _ _ h => h) rfl (fun ww => by go_simp) ?_
  simp only [Act.put, List.setIfInBounds_toArray, List.set_cons_zero, List.set_cons_succ]
  refine inO_take 8 ⟨_, _, _, _, _, _⟩ (.bool false) rfl (by kernel_rfl) (by kernel_rfl) (by kernel_rfl) (fun _ _ _ h => h) rfl (fun ww => exec_move (by rfl) (by rfl) ww) ?_
  simp only [Act.put, List.setIfInBounds_toArray, List.set_cons_zero, List.set_cons_succ]
  refine inO_load 9 ⟨_, _, _, _, _, _⟩ (.agg ([.int .i64 p.a, .int .u64 (p.b : Int), .int .u32 (p.s : Int)]).toArray) (fun w' => w'.rangeAt (w.heap.size) (0) ([.int .i64 p.a, .int .u64 (p.b : Int), .int .u32 (p.s : Int)])) rfl (by kernel_rfl) (by kernel_rfl) (by kernel_rfl) (fun _ _ _ h => h) rfl (.tail _ (.tail _ (.head _))) (fun ww hw => exec_load_mid _ _ (by rfl) _ _ (by rfl) _ _ hw Try.underlying26 rfl (infoPtr p)) ?_
  simp only [Act.put, List.setIfInBounds_toArray, List.set_cons_zero, List.set_cons_succ]
  refine inO_load 10 ⟨_, _, _, _, _, _⟩ (.agg ([.int .i64 q.a, .int .u64 (q.b : Int), .int .u32 (q.s : Int)]).toArray) (fun w' => w'.rangeAt (w.heap.size + 1) (0) ([.int .i64 q.a, .int .u64 (q.b : Int), .int .u32 (q.s : Int)])) rfl (by kernel_rfl) (by kernel_rfl) (by kernel_rfl) (fun _ _ _ h => h) rfl (.tail _ (.tail _ (.tail _ (.head _)))) (fun ww hw => exec_load_mid _ _ (by rfl) _ _ (by rfl) _ _ hw Try.underlying26 rfl (infoPtr q)) ?_
  simp only [Act.put, List.setIfInBounds_toArray, List.set_cons_zero, List.set_cons_succ]
  refine inO_load 19 ⟨_, _, _, _, _, _⟩ (.agg ([.int .i64 p.a, .int .u64 (p.b : Int), .int .u32 (p.s : Int)]).toArray) (fun w' => w'.rangeAt (w.heap.size) (0) ([.int .i64 p.a, .int .u64 (p.b : Int), .int .u32 (p.s : Int)])) rfl (by kernel_rfl) (by kernel_rfl) (by kernel_rfl) (fun _ _ _ h => h) rfl (.tail _ (.tail _ (.tail _ (.tail _ (.tail _ (.tail _ (.head _))))))) (fun ww hw => exec_load_mid _ _ (by rfl) _ _ (by rfl) _ _ hw Try.underlying26 rfl (infoPtr p)) ?_
  simp only [Act.put, List.setIfInBounds_toArray, List.set_cons_zero, List.set_cons_succ]
  refine inO_load 20 ⟨_, _, _, _, _, _⟩ (.agg ([.int .i64 q.a, .int .u64 (q.b : Int), .int .u32 (q.s : Int)]).toArray) (fun w' => w'.rangeAt (w.heap.size + 1) (0) ([.int .i64 q.a, .int .u64 (q.b : Int), .int .u32 (q.s : Int)])) rfl (by kernel_rfl) (by kernel_rfl) (by kernel_rfl) (fun _ _ _ h => h) rfl (.tail _ (.tail _ (.tail _ (.tail _ (.tail _ (.tail _ (.tail _ (.head _)))))))) (fun ww hw => exec_load_mid _ _ (by rfl) _ _ (by rfl) _ _ hw Try.underlying26 rfl (infoPtr q)) ?_
  simp only [Act.put, List.setIfInBounds_toArray, List.set_cons_zero, List.set_cons_succ]
  refine inO_take 21 ⟨_, _, _, _, _, _⟩ (.bool true) rfl (by kernel_rfl) (by kernel_rfl) (by kernel_rfl) (fun _ _ _ h => h) rfl (fun ww => by go_simp) ?_
  simp only [Act.put, List.setIfInBounds_toArray, List.set_cons_zero, List.set_cons_succ]
  refine inO_step 11 ⟨_, _, _, _, _, _⟩ rfl (by kernel_rfl) rfl (fun K hK => ?_)
  refine wp_call Try.func12 (by kernel_rfl) rfl _ _ rfl _ rfl _ (C_pq.out _) fun e v2 h => ?_
  obtain ⟨rfl, hb⟩ := h
  refine ⟨_, rfl, ?_⟩
  have hq := Lib.hid (hq.out.trans (hb.mono hq.out.size))
  have P1 := Lib.hid (P1.out.next hb)
  have Q1 := Lib.hid (Q1.out.next hb)
  have R1 := Lib.hid (R1.out.next hb)
  refine hK _ _ (Keeps.cons (fun h j v hv => keepCell hb (h j v hv)) (Keeps.cons (fun h j v hv => keepCell hb (h j v hv)) (Keeps.cons (fun h j v hv => keepCell hb (h j v hv)) (Keeps.cons (fun h j v hv => keepCell hb (h j v hv)) (Keeps.cons (fun h j v hv => keepCell hb (h j v hv)) (Keeps.cons (fun h j v hv => keepCell hb (h j v hv)) (Keeps.cons (fun h j v hv => keepCell hb (h j v hv)) (Keeps.cons (fun h j v hv => keepCell hb (h j v hv)) (Keeps.nil _ _ _))))))))) ?_
  clear hK K
  simp only [Act.put, List.setIfInBounds_toArray, List.set_cons_zero, List.set_cons_succ]
  refine inO_take 12 ⟨_, _, _, _, _, _⟩ (.bool true) rfl (by kernel_rfl) (by kernel_rfl) (by kernel_rfl) (fun _ _ _ h => h) rfl (fun ww => by go_simp) ?_
  simp only [Act.put, List.setIfInBounds_toArray, List.set_cons_zero, List.set_cons_succ]
  refine inO_take 13 ⟨_, _, _, _, _, _⟩ (.bool true) rfl (by kernel_rfl) (by kernel_rfl) (by kernel_rfl) (fun _ _ _ h => h) rfl (fun ww => exec_move (by rfl) (by rfl) ww) ?_
  simp only [Act.put, List.setIfInBounds_toArray, List.set_cons_zero, List.set_cons_succ]
  refine inO_load 14 ⟨_, _, _, _, _, _⟩ (.agg ([.int .i64 q.a, .int .u64 (q.b : Int), .int .u32 (q.s : Int)]).toArray) (fun w' => w'.rangeAt (w.heap.size + 1) (0) ([.int .i64 q.a, .int .u64 (q.b : Int), .int .u32 (q.s : Int)])) rfl (by kernel_rfl) (by kernel_rfl) (by kernel_rfl) (fun _ _ _ h => h) rfl (.tail _ (.tail _ (.tail _ (.tail _ (.head _))))) (fun ww hw => exec_load_mid _ _ (by rfl) _ _ (by rfl) _ _ hw Try.underlying26 rfl (infoPtr q)) ?_
  simp only [Act.put, List.setIfInBounds_toArray, List.set_cons_zero, List.set_cons_succ]
  refine inO_load 15 ⟨_, _, _, _, _, _⟩ (.agg ([.int .i64 p.a, .int .u64 (p.b : Int), .int .u32 (p.s : Int)]).toArray) (fun w' => w'.rangeAt (w.heap.size) (0) ([.int .i64 p.a, .int .u64 (p.b : Int), .int .u32 (p.s : Int)])) rfl (by kernel_rfl) (by kernel_rfl) (by kernel_rfl) (fun _ _ _ h => h) rfl (.tail _ (.tail _ (.tail _ (.tail _ (.tail _ (.head _)))))) (fun ww hw => exec_load_mid _ _ (by rfl) _ _ (by rfl) _ _ hw Try.underlying26 rfl (infoPtr p)) ?_
  simp only [Act.put, List.setIfInBounds_toArray, List.set_cons_zero, List.set_cons_succ]
  refine inO_step 16 ⟨_, _, _, _, _, _⟩ rfl (by kernel_rfl) rfl (fun K hK => ?_)
  refine wp_call Try.func12 (by kernel_rfl) rfl _ _ rfl _ rfl _ (C_qp.out _) fun e v3 h => ?_
  obtain ⟨rfl, hb⟩ := h
  refine ⟨_, rfl, ?_⟩
  have hq := Lib.hid (hq.out.trans (hb.mono hq.out.size))
  have P1 := Lib.hid (P1.out.next hb)
  have Q1 := Lib.hid (Q1.out.next hb)
  have R1 := Lib.hid (R1.out.next hb)
  refine hK _ _ (Keeps.cons (fun h j v hv => keepCell hb (h j v hv)) (Keeps.cons (fun h j v hv => keepCell hb (h j v hv)) (Keeps.cons (fun h j v hv => keepCell hb (h j v hv)) (Keeps.cons (fun h j v hv => keepCell hb (h j v hv)) (Keeps.cons (fun h j v hv => keepCell hb (h j v hv)) (Keeps.cons (fun h j v hv => keepCell hb (h j v hv)) (Keeps.cons (fun h j v hv => keepCell hb (h j v hv)) (Keeps.cons (fun h j v hv => keepCell hb (h j v hv)) (Keeps.nil _ _ _))))))))) ?_
  clear hK K
  simp only [Act.put, List.setIfInBounds_toArray, List.set_cons_zero, List.set_cons_succ]
  refine inO_take 17 ⟨_, _, _, _, _, _⟩ (.bool true) rfl (by kernel_rfl) (by kernel_rfl) (by kernel_rfl) (fun _ _ _ h => h) rfl (fun ww => by go_simp) ?_
  simp only [Act.put, List.setIfInBounds_toArray, List.set_cons_zero, List.set_cons_succ]
  refine inO_take 18 ⟨_, _, _, _, _, _⟩ (.bool true) rfl (by kernel_rfl) (by kernel_rfl) (by kernel_rfl) (fun _ _ _ h => h) rfl (fun ww => by go_simp) ?_
  simp only [Act.put, List.setIfInBounds_toArray, List.set_cons_zero, List.set_cons_succ]
  refine inO_take 22 ⟨_, _, _, _, _, _⟩ (.bool false) rfl (by kernel_rfl) (by kernel_rfl) (by kernel_rfl) (fun _ _ _ h => h) rfl (fun ww => by go_simp) ?_
  simp only [Act.put, List.setIfInBounds_toArray, List.set_cons_zero, List.set_cons_succ]
  refine inO_take 23 ⟨_, _, _, _, _, _⟩ (.bool false) rfl (by kernel_rfl) (by kernel_rfl) (by kernel_rfl) (fun _ _ _ h => h) rfl (fun ww => by go_simp) ?_
  simp only [Act.put, List.setIfInBounds_toArray, List.set_cons_zero, List.set_cons_succ]
  refine inO_done (by kernel_rfl) ?_
  clear c0 c1 c2 c3 c4 c5 c6 c7 c8
  obtain ⟨c0, c1, c2⟩ := P1.out.cells
  obtain ⟨c3, c4, c5⟩ := Q1.out.cells
  obtain ⟨c6, c7, c8⟩ := R1.out.cells
  go_wp2_with fail
  refine (C_pq.out _).mono ?_
  rintro e w3 ⟨rfl, hb⟩
  clear c0 c1 c2 c3 c4 c5 c6 c7 c8
  have P1 := Lib.hid (P1.out.next hb)
  have Q1 := Lib.hid (Q1.out.next hb)
  have R1 := Lib.hid (R1.out.next hb)
  obtain ⟨c0, c1, c2⟩ := P1.out.cells
  obtain ⟨c3, c4, c5⟩ := Q1.out.cells
  obtain ⟨c6, c7, c8⟩ := R1.out.cells
  have hq := Lib.hid (hq.out.trans (hb.mono hq.out.size))
  go_wp2_with fail
  refine (C_si.out _).mono ?_
  rintro e w6 ⟨rfl, hb⟩
  clear c0 c1 c2 c3 c4 c5 c6 c7 c8
  have P1 := Lib.hid (P1.out.next hb)
  have Q1 := Lib.hid (Q1.out.next hb)
  have R1 := Lib.hid (R1.out.next hb)
  obtain ⟨c0, c1, c2⟩ := P1.out.cells
  obtain ⟨c3, c4, c5⟩ := Q1.out.cells
  obtain ⟨c6, c7, c8⟩ := R1.out.cells
  have hq := Lib.hid (hq.out.trans (hb.mono hq.out.size))
  go_wp2
  go_ret
  exact ⟨rfl, hq.out⟩

theorem less_not {p q : P3} (h : p.lessB q = true) : q.lessB p = false ∧ p.eqB q = false := by
  unfold P3.lessB P3.eqB at *
  simp only [decide_eq_true_iff, decide_eq_false_iff_not, Bool.and_eq_false_iff] at *
  omega
theorem less_none {p q : P3} (h : p.lessB q = false) (h' : q.lessB p = false) : p.eqB q = true := by
  unfold P3.lessB P3.eqB at *
  simp only [decide_eq_true_iff, decide_eq_false_iff_not, Bool.and_eq_true] at *
  omega
theorem less_eq {p q : P3} (h : q.lessB p = true) : p.eqB q = false := by
  unfold P3.lessB P3.eqB at *
  simp only [decide_eq_true_iff, decide_eq_false_iff_not, Bool.and_eq_false_iff] at *
  omega
theorem less_trans {p q r : P3} (h : p.lessB q = true) (h' : q.lessB r = true) : p.lessB r = true := by
  unfold P3.lessB at *
  simp only [decide_eq_true_iff] at *
  omega
theorem since_less {p r : P3} (h : p.sinceB r.b = true) : r.lessB p = true := by
  unfold P3.lessB P3.sinceB at *
  simp only [Bool.and_eq_true, decide_eq_true_iff] at *
  omega

theorem walk (p q r : P3) (w : World) (hp : p.Fit) (hq0 : q.Fit) (hr0 : r.Fit) :
    Calls Try.prog 7 #[p3V p, p3V q, p3V r] w fun e w' => e = .returned (.bool true) ∧ Below w.heap.size w w' := by
  cases pq : p.lessB q with
  | true =>
    obtain ⟨qp, eq⟩ := less_not pq
    cases qr : q.lessB r with
    | true =>
      have pr := less_trans pq qr
      cases si : p.sinceB r.b with
      | true => exact way_a1 p q r w hp hq0 hr0 pq qp eq qr pr si (since_less si)
      | false => exact way_a2 p q r w hp hq0 hr0 pq qp eq qr pr si
    | false =>
      cases si : p.sinceB r.b with
      | true => exact way_a3 p q r w hp hq0 hr0 pq qp eq qr si (since_less si)
      | false => exact way_a4 p q r w hp hq0 hr0 pq qp eq qr si
  | false =>
    cases qp : q.lessB p with
    | true =>
      have eq := less_eq qp
      cases si : p.sinceB r.b with
      | true => exact way_b1 p q r w hp hq0 hr0 pq qp eq si (since_less si)
      | false => exact way_b2 p q r w hp hq0 hr0 pq qp eq si
    | false =>
      have eq := less_none pq qp
      cases si : p.sinceB r.b with
      | true => exact way_c1 p q r w hp hq0 hr0 pq qp eq si (since_less si)
      | false => exact way_c2 p q r w hp hq0 hr0 pq qp eq si


theorem own : ownKnob Try.prog.godebug = none := by kernel_rfl

set_option maxRecDepth 100000 in
theorem lifted (os : Os) (started : os.Started) (H : Type) (enc : TypeId × Value → H) :
    ReturnsInHanded {} Try.checked os 7 .any (Rows.ptrOrderSpec.pre6 enc Try.prog Try.f7 Rows.ptrOrderRow.domain false) (Rows.ptrOrderSpec.post enc Try.prog Try.f7 false true false false) := by
  refine returnsInHanded_of_change_sized (C := Try.checked) own started (by kernel_rfl) Try.func7
    (ChangeSpec.witness6 (enc := enc) (C := Try.checked) false ⟨#[], #[.agg #[.int .i64 0, .int .u64 0, .int .u32 0], .agg #[.int .i64 0, .int .u64 0, .int .u32 0], .agg #[.int .i64 0, .int .u64 0, .int .u32 0]], []⟩ 8 (by kernel_rfl) (by kernel_rfl) (by kernel_rfl) (by kernel_rfl)) ?_
  intro W base args ds gs before hval0 hW hcnd hsz0 _
  have hval : ∀ (j : Nat) t v, Try.f7.params[j]? = some t → args[j]? = some v → Value.okWide Try.prog W .any base t v := hval0
  have hsz : (DataW.weightsEach Try.prog (Try.f7.params.toList ++ Rows.ptrOrderSpec.plain.varTypes Try.prog) (ds ++ gs)).all (· ≤ reachBytes) = true := hsz0
  have hW' := hW
  obtain ⟨p, q, hA0, hV, rfl, hfz, hnd⟩ := hW
  have hA : DataW.TrodAll enc Try.prog W 0 (fun _ => true) true Try.f7.params.toList args.toList ds p := hA0
  rw [Try.params7] at hA hval hsz
  obtain ⟨v0, vs0, d0, ds0, p0, q0, hargs, rfl, rfl, h0, r0⟩ := trodAll_cons hA
  obtain ⟨v1, vs1, d1, ds1, p1, q1, rfl, rfl, rfl, h1, r1⟩ := trodAll_cons r0
  obtain ⟨v2, vs2, d2, ds2, p2, q2, rfl, rfl, rfl, h2, r2⟩ := trodAll_cons r1
  obtain ⟨rfl, rfl, rfl⟩ := trodAll_nil r2
  obtain rfl : args = #[v0, v1, v2] := by cases args; simp_all
  obtain ⟨rfl, rfl⟩ := trodVars_none hV
  obtain ⟨a0, rfl, rfl, rfl, wf0⟩ := open_ptr (hval 0 26 v0 rfl rfl) h0
  obtain ⟨a1, rfl, rfl, rfl, wf1⟩ := open_ptr (hval 1 26 v1 rfl rfl) h1
  obtain ⟨a2, rfl, rfl, rfl, wf2⟩ := open_ptr (hval 2 26 v2 rfl rfl) h2
  clear hA0 hval0 hsz0
  refine (walk a0 a1 a2 W wf0 wf1 wf2).mono fun e W' ⟨he, bel⟩ => ?_
  subst he
  exact ⟨_, rfl, _, _, _, [], _, [], hW', trodAll_mk1 (shut_bool Try.underlying4 _), (trodAll_cons_mk (shut_ptr wf0) (trodAll_cons_mk (shut_ptr wf1) (trodAll_cons_mk (shut_ptr wf2) trodAll_mk0))), rfl, bel.frame _, fun h => by cases h⟩

theorem proved : Rows.PtrOrderSaid :=
  OpenClaim.holds_of_wide 7 Try.f7 rfl rfl rfl rfl rfl rfl rfl ⟨rfl, rfl, rfl, rfl, rfl⟩ rfl rfl rfl rfl rfl (by kernel_rfl) Try.func7 (by kernel_rfl)
    (of_decide_eq_true (by kernel_rfl)) (by unfold Func.isWrapper; first | (rw [if_pos (by decide +kernel)]; kernel_rfl) | (rw [if_neg (by decide +kernel)]; exact ⟨rfl, rfl⟩))
    (fun os started H enc _ => lifted os started H enc)
end Go.Proofs.Ytlkfmifjfcjcoaa.lawPtrOrder
