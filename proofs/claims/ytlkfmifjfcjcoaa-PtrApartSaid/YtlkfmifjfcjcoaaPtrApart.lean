/- PtrApart, for every input: the law returns true and each argument reads behind the call as before. No condition. -/
import Derived.Test.YtlkfmifjfcjcoaaPtrE
namespace Go.Proofs.Ytlkfmifjfcjcoaa.lawPtrApart
open Go.ChangeShapes Go.WideShapes Go.ChangeAt Go.RowKit Go.Deep
set_option linter.unusedVariables false

set_option maxHeartbeats 4000000 in
theorem way_p (p q : P3) (w : World) (hp : p.Fit) (hq0 : q.Fit) (h1 : p.rightB = false) :
    Calls Try.prog 8 #[p3V p, p3V q] w fun e w' => e = .returned (.bool true) ∧ Below w.heap.size w w' := by
  have o1 : Hid (p.bytesO = none) := Lib.hid (by unfold P3.bytesO; rw [h1]; rfl)
  have h1 := Lib.hid h1
  have hB1 := fun W => Bytes_any p.a p.b p.s W hp
  have hB2 := fun W => Bytes_any q.a q.b q.s W hq0
  have hR1 := fun W => Right_any p.a p.b p.s W hp
  have hR2 := fun W => Right_any q.a q.b q.s W hq0
  have hB1 := Lib.hid hB1
  have hB2 := Lib.hid hB2
  have hR1 := Lib.hid hR1
  have hR2 := Lib.hid hR2
  have hp := Lib.hid hp
  have hq0 := Lib.hid hq0
  have hq := Lib.hid (((Below.refl w.heap.size w).alloc (Nat.le_refl _) (.cells #[.int .i64 p.a, .int .u64 (p.b : Int), .int .u32 (p.s : Int)] 26)).alloc (by simp) (.cells #[.int .i64 q.a, .int .u64 (q.b : Int), .int .u32 (q.s : Int)] 26))
  have P1 := (PtrAt.first w p).alloc (.cells #[.int .i64 q.a, .int .u64 (q.b : Int), .int .u32 (q.s : Int)] 26)
  have Q1 := PtrAt.first (w.alloc (.cells #[.int .i64 p.a, .int .u64 (p.b : Int), .int .u32 (p.s : Int)] 26)) q
  rw [show (w.alloc (.cells #[.int .i64 p.a, .int .u64 (p.b : Int), .int .u32 (p.s : Int)] 26)).heap.size = w.heap.size + 1 from by simp] at Q1
  obtain ⟨c0, c1, c2⟩ := P1.cells
  obtain ⟨c3, c4, c5⟩ := Q1.cells
  have P1 := Lib.hid P1
  have Q1 := Lib.hid Q1
  unfold p3V
  go_enter Try.func8, Try.ntmps8
  go_wp2_with fail
  refine (alive_any _).mono ?_
  rintro e w1 ⟨rfl, hb⟩
  have P1 := P1.out.next hb
  have Q1 := Q1.out.next hb
  clear c0 c1 c2 c3 c4 c5
  obtain ⟨c0, c1, c2⟩ := P1.cells
  obtain ⟨c3, c4, c5⟩ := Q1.cells
  have P1 := Lib.hid P1
  have Q1 := Lib.hid Q1
  have hq := Lib.hid (hq.out.trans (hb.mono hq.out.size))
  go_wp2_with fail
  refine (hB1.out _).mono ?_
  intro e w2 hP
  obtain ⟨xo, xc, rfl, _, _, hb⟩ := hP.nope o1.out
  have P1 := P1.out.next hb
  have Q1 := Q1.out.next hb
  clear c0 c1 c2 c3 c4 c5
  obtain ⟨c0, c1, c2⟩ := P1.cells
  obtain ⟨c3, c4, c5⟩ := Q1.cells
  have P1 := Lib.hid P1
  have Q1 := Lib.hid Q1
  have hq := Lib.hid (hq.out.trans (hb.mono hq.out.size))
  go_wp2_with fail
  refine (hB2.out _).mono ?_
  rintro e w3 ⟨v, rfl, _, hb⟩
  have P1 := P1.out.next hb
  have Q1 := Q1.out.next hb
  clear c0 c1 c2 c3 c4 c5
  obtain ⟨c0, c1, c2⟩ := P1.cells
  obtain ⟨c3, c4, c5⟩ := Q1.cells
  have P1 := Lib.hid P1
  have Q1 := Lib.hid Q1
  have hq := Lib.hid (hq.out.trans (hb.mono hq.out.size))
  go_wp2_with fail
  refine (hR1.out _).mono ?_
  rintro e w4 ⟨rfl, hb⟩
  rw [show P3.rightB ⟨p.a, p.b, p.s⟩ = false from h1.out]
  have P1 := P1.out.next hb
  have Q1 := Q1.out.next hb
  clear c0 c1 c2 c3 c4 c5
  obtain ⟨c0, c1, c2⟩ := P1.cells
  obtain ⟨c3, c4, c5⟩ := Q1.cells
  have P1 := Lib.hid P1
  have Q1 := Lib.hid Q1
  have hq := Lib.hid (hq.out.trans (hb.mono hq.out.size))
  go_wp2
  go_ret
  exact ⟨rfl, hq.out⟩

set_option maxHeartbeats 4000000 in
theorem way_q (p q : P3) (w : World) (hp : p.Fit) (hq0 : q.Fit) (h1 : p.rightB = true) (h2 : q.rightB = false) :
    Calls Try.prog 8 #[p3V p, p3V q] w fun e w' => e = .returned (.bool true) ∧ Below w.heap.size w w' := by
  have o1 : Hid (p.bytesO = some p.bytes) := Lib.hid (by unfold P3.bytesO; rw [h1]; rfl)
  have o2 : Hid (q.bytesO = none) := Lib.hid (by unfold P3.bytesO; rw [h2]; rfl)
  have h1 := Lib.hid h1
  have h2 := Lib.hid h2
  have hB1 := fun W => Bytes_any p.a p.b p.s W hp
  have hB2 := fun W => Bytes_any q.a q.b q.s W hq0
  have hR1 := fun W => Right_any p.a p.b p.s W hp
  have hR2 := fun W => Right_any q.a q.b q.s W hq0
  have hB1 := Lib.hid hB1
  have hB2 := Lib.hid hB2
  have hR1 := Lib.hid hR1
  have hR2 := Lib.hid hR2
  have hp := Lib.hid hp
  have hq0 := Lib.hid hq0
  have hq := Lib.hid (((Below.refl w.heap.size w).alloc (Nat.le_refl _) (.cells #[.int .i64 p.a, .int .u64 (p.b : Int), .int .u32 (p.s : Int)] 26)).alloc (by simp) (.cells #[.int .i64 q.a, .int .u64 (q.b : Int), .int .u32 (q.s : Int)] 26))
  have P1 := (PtrAt.first w p).alloc (.cells #[.int .i64 q.a, .int .u64 (q.b : Int), .int .u32 (q.s : Int)] 26)
  have Q1 := PtrAt.first (w.alloc (.cells #[.int .i64 p.a, .int .u64 (p.b : Int), .int .u32 (p.s : Int)] 26)) q
  rw [show (w.alloc (.cells #[.int .i64 p.a, .int .u64 (p.b : Int), .int .u32 (p.s : Int)] 26)).heap.size = w.heap.size + 1 from by simp] at Q1
  obtain ⟨c0, c1, c2⟩ := P1.cells
  obtain ⟨c3, c4, c5⟩ := Q1.cells
  have P1 := Lib.hid P1
  have Q1 := Lib.hid Q1
  unfold p3V
  go_enter Try.func8, Try.ntmps8
  go_wp2_with fail
  refine (alive_any _).mono ?_
  rintro e w1 ⟨rfl, hb⟩
  have P1 := P1.out.next hb
  have Q1 := Q1.out.next hb
  clear c0 c1 c2 c3 c4 c5
  obtain ⟨c0, c1, c2⟩ := P1.cells
  obtain ⟨c3, c4, c5⟩ := Q1.cells
  have P1 := Lib.hid P1
  have Q1 := Lib.hid Q1
  have hq := Lib.hid (hq.out.trans (hb.mono hq.out.size))
  go_wp2_with fail
  refine (hB1.out _).mono ?_
  intro e w2 hP
  obtain ⟨xo, xc, rfl, _, _, _, _, hb⟩ := hP.yes o1.out (P3.bytes_length _)
  have P1 := P1.out.next hb
  have Q1 := Q1.out.next hb
  clear c0 c1 c2 c3 c4 c5
  obtain ⟨c0, c1, c2⟩ := P1.cells
  obtain ⟨c3, c4, c5⟩ := Q1.cells
  have P1 := Lib.hid P1
  have Q1 := Lib.hid Q1
  have hq := Lib.hid (hq.out.trans (hb.mono hq.out.size))
  go_wp2_with fail
  refine (hB2.out _).mono ?_
  intro e w3 hP
  obtain ⟨yo, yc, rfl, _, _, hb⟩ := hP.nope o2.out
  have P1 := P1.out.next hb
  have Q1 := Q1.out.next hb
  clear c0 c1 c2 c3 c4 c5
  obtain ⟨c0, c1, c2⟩ := P1.cells
  obtain ⟨c3, c4, c5⟩ := Q1.cells
  have P1 := Lib.hid P1
  have Q1 := Lib.hid Q1
  have hq := Lib.hid (hq.out.trans (hb.mono hq.out.size))
  go_wp2_with fail
  refine (hR1.out _).mono ?_
  rintro e w4 ⟨rfl, hb⟩
  rw [show P3.rightB ⟨p.a, p.b, p.s⟩ = true from h1.out]
  have P1 := P1.out.next hb
  have Q1 := Q1.out.next hb
  clear c0 c1 c2 c3 c4 c5
  obtain ⟨c0, c1, c2⟩ := P1.cells
  obtain ⟨c3, c4, c5⟩ := Q1.cells
  have P1 := Lib.hid P1
  have Q1 := Lib.hid Q1
  have hq := Lib.hid (hq.out.trans (hb.mono hq.out.size))
  go_wp2_with fail
  refine (hR2.out _).mono ?_
  rintro e w5 ⟨rfl, hb⟩
  rw [show P3.rightB ⟨q.a, q.b, q.s⟩ = false from h2.out]
  have P1 := P1.out.next hb
  have Q1 := Q1.out.next hb
  clear c0 c1 c2 c3 c4 c5
  obtain ⟨c0, c1, c2⟩ := P1.cells
  obtain ⟨c3, c4, c5⟩ := Q1.cells
  have P1 := Lib.hid P1
  have Q1 := Lib.hid Q1
  have hq := Lib.hid (hq.out.trans (hb.mono hq.out.size))
  go_wp2
  go_ret
  exact ⟨rfl, hq.out⟩

set_option maxHeartbeats 4000000 in
theorem way_n1 (p q : P3) (w : World) (hp : p.Fit) (hq0 : q.Fit) (h1 : p.rightB = true) (h2 : q.rightB = true) (hne : p ≠ q) (e1 : (p.a == q.a) = false) :
    Calls Try.prog 8 #[p3V p, p3V q] w fun e w' => e = .returned (.bool true) ∧ Below w.heap.size w w' := by
  have hs := str_ne (fun e => hne (bytes_inj hp hq0 h1 h2 e))
  have hs := Lib.hid hs
  clear hne
  have e1 := Lib.hid e1
  have o1 : Hid (p.bytesO = some p.bytes) := Lib.hid (by unfold P3.bytesO; rw [h1]; rfl)
  have o2 : Hid (q.bytesO = some q.bytes) := Lib.hid (by unfold P3.bytesO; rw [h2]; rfl)
  have h1 := Lib.hid h1
  have h2 := Lib.hid h2
  have hB1 := fun W => Bytes_any p.a p.b p.s W hp
  have hB2 := fun W => Bytes_any q.a q.b q.s W hq0
  have hR1 := fun W => Right_any p.a p.b p.s W hp
  have hR2 := fun W => Right_any q.a q.b q.s W hq0
  have hB1 := Lib.hid hB1
  have hB2 := Lib.hid hB2
  have hR1 := Lib.hid hR1
  have hR2 := Lib.hid hR2
  have hp := Lib.hid hp
  have hq0 := Lib.hid hq0
  have hq := Lib.hid (((Below.refl w.heap.size w).alloc (Nat.le_refl _) (.cells #[.int .i64 p.a, .int .u64 (p.b : Int), .int .u32 (p.s : Int)] 26)).alloc (by simp) (.cells #[.int .i64 q.a, .int .u64 (q.b : Int), .int .u32 (q.s : Int)] 26))
  have P1 := (PtrAt.first w p).alloc (.cells #[.int .i64 q.a, .int .u64 (q.b : Int), .int .u32 (q.s : Int)] 26)
  have Q1 := PtrAt.first (w.alloc (.cells #[.int .i64 p.a, .int .u64 (p.b : Int), .int .u32 (p.s : Int)] 26)) q
  rw [show (w.alloc (.cells #[.int .i64 p.a, .int .u64 (p.b : Int), .int .u32 (p.s : Int)] 26)).heap.size = w.heap.size + 1 from by simp] at Q1
  obtain ⟨c0, c1, c2⟩ := P1.cells
  obtain ⟨c3, c4, c5⟩ := Q1.cells
  have P1 := Lib.hid P1
  have Q1 := Lib.hid Q1
  unfold p3V
  go_enter Try.func8, Try.ntmps8
  go_wp2_with fail
  refine (alive_any _).mono ?_
  rintro e w1 ⟨rfl, hb⟩
  have P1 := P1.out.next hb
  have Q1 := Q1.out.next hb
  clear c0 c1 c2 c3 c4 c5
  obtain ⟨c0, c1, c2⟩ := P1.cells
  obtain ⟨c3, c4, c5⟩ := Q1.cells
  have P1 := Lib.hid P1
  have Q1 := Lib.hid Q1
  have hq := Lib.hid (hq.out.trans (hb.mono hq.out.size))
  go_wp2_with fail
  refine (hB1.out _).mono ?_
  intro e w2 hP
  obtain ⟨xo, xc, rfl, hx, _, _, _, hb⟩ := hP.yes o1.out (P3.bytes_length _)
  have P1 := P1.out.next hb
  have Q1 := Q1.out.next hb
  clear c0 c1 c2 c3 c4 c5
  obtain ⟨c0, c1, c2⟩ := P1.cells
  obtain ⟨c3, c4, c5⟩ := Q1.cells
  have P1 := Lib.hid P1
  have Q1 := Lib.hid Q1
  have hq := Lib.hid (hq.out.trans (hb.mono hq.out.size))
  go_wp2_with fail
  refine (hB2.out _).mono ?_
  intro e w3 hP
  obtain ⟨yo, yc, rfl, hy, _, _, _, hb⟩ := hP.yes o2.out (P3.bytes_length _)
  have P1 := P1.out.next hb
  have Q1 := Q1.out.next hb
  clear c0 c1 c2 c3 c4 c5
  obtain ⟨c0, c1, c2⟩ := P1.cells
  obtain ⟨c3, c4, c5⟩ := Q1.cells
  have P1 := Lib.hid P1
  have Q1 := Lib.hid Q1
  have hx := Lib.hid (Reads.below hx.out hb)
  have hq := Lib.hid (hq.out.trans (hb.mono hq.out.size))
  have q1 : ∀ n, (convert 31 9 (.slice xo 16 xc)).run Try.prog (w3.drewN n) = .ok (.string (strOf p.bytes)) (w3.drewN n) := fun n => str_at 16 xc (Reads.drewN hx.out n) (P3.bytes_length _)
  have q2 : ∀ n, (convert 31 9 (.slice yo 16 yc)).run Try.prog (w3.drewN n) = .ok (.string (strOf q.bytes)) (w3.drewN n) := fun n => str_at 16 yc (Reads.drewN hy.out n) (P3.bytes_length _)
  have q3 : (convert 31 9 (.slice xo 16 xc)).run Try.prog w3 = .ok (.string (strOf p.bytes)) w3 := q1 0
  have q4 : (convert 31 9 (.slice yo 16 yc)).run Try.prog w3 = .ok (.string (strOf q.bytes)) w3 := q2 0
  have hs := hs.out
  have e1 := e1.out

  go_wp2
  go_quiet (fail)
  go_wp2
  go_ret
  exact ⟨rfl, below_drewN' hq.out _⟩

set_option maxHeartbeats 4000000 in
theorem way_n2 (p q : P3) (w : World) (hp : p.Fit) (hq0 : q.Fit) (h1 : p.rightB = true) (h2 : q.rightB = true) (hne : p ≠ q) (e1 : (p.a == q.a) = true) (e2 : ((p.b : Int) == (q.b : Int)) = false) :
    Calls Try.prog 8 #[p3V p, p3V q] w fun e w' => e = .returned (.bool true) ∧ Below w.heap.size w w' := by
  have hs := str_ne (fun e => hne (bytes_inj hp hq0 h1 h2 e))
  have hs := Lib.hid hs
  clear hne
  have e1 := Lib.hid e1
  have e2 := Lib.hid e2
  have o1 : Hid (p.bytesO = some p.bytes) := Lib.hid (by unfold P3.bytesO; rw [h1]; rfl)
  have o2 : Hid (q.bytesO = some q.bytes) := Lib.hid (by unfold P3.bytesO; rw [h2]; rfl)
  have h1 := Lib.hid h1
  have h2 := Lib.hid h2
  have hB1 := fun W => Bytes_any p.a p.b p.s W hp
  have hB2 := fun W => Bytes_any q.a q.b q.s W hq0
  have hR1 := fun W => Right_any p.a p.b p.s W hp
  have hR2 := fun W => Right_any q.a q.b q.s W hq0
  have hB1 := Lib.hid hB1
  have hB2 := Lib.hid hB2
  have hR1 := Lib.hid hR1
  have hR2 := Lib.hid hR2
  have hp := Lib.hid hp
  have hq0 := Lib.hid hq0
  have hq := Lib.hid (((Below.refl w.heap.size w).alloc (Nat.le_refl _) (.cells #[.int .i64 p.a, .int .u64 (p.b : Int), .int .u32 (p.s : Int)] 26)).alloc (by simp) (.cells #[.int .i64 q.a, .int .u64 (q.b : Int), .int .u32 (q.s : Int)] 26))
  have P1 := (PtrAt.first w p).alloc (.cells #[.int .i64 q.a, .int .u64 (q.b : Int), .int .u32 (q.s : Int)] 26)
  have Q1 := PtrAt.first (w.alloc (.cells #[.int .i64 p.a, .int .u64 (p.b : Int), .int .u32 (p.s : Int)] 26)) q
  rw [show (w.alloc (.cells #[.int .i64 p.a, .int .u64 (p.b : Int), .int .u32 (p.s : Int)] 26)).heap.size = w.heap.size + 1 from by simp] at Q1
  obtain ⟨c0, c1, c2⟩ := P1.cells
  obtain ⟨c3, c4, c5⟩ := Q1.cells
  have P1 := Lib.hid P1
  have Q1 := Lib.hid Q1
  unfold p3V
  go_enter Try.func8, Try.ntmps8
  go_wp2_with fail
  refine (alive_any _).mono ?_
  rintro e w1 ⟨rfl, hb⟩
  have P1 := P1.out.next hb
  have Q1 := Q1.out.next hb
  clear c0 c1 c2 c3 c4 c5
  obtain ⟨c0, c1, c2⟩ := P1.cells
  obtain ⟨c3, c4, c5⟩ := Q1.cells
  have P1 := Lib.hid P1
  have Q1 := Lib.hid Q1
  have hq := Lib.hid (hq.out.trans (hb.mono hq.out.size))
  go_wp2_with fail
  refine (hB1.out _).mono ?_
  intro e w2 hP
  obtain ⟨xo, xc, rfl, hx, _, _, _, hb⟩ := hP.yes o1.out (P3.bytes_length _)
  have P1 := P1.out.next hb
  have Q1 := Q1.out.next hb
  clear c0 c1 c2 c3 c4 c5
  obtain ⟨c0, c1, c2⟩ := P1.cells
  obtain ⟨c3, c4, c5⟩ := Q1.cells
  have P1 := Lib.hid P1
  have Q1 := Lib.hid Q1
  have hq := Lib.hid (hq.out.trans (hb.mono hq.out.size))
  go_wp2_with fail
  refine (hB2.out _).mono ?_
  intro e w3 hP
  obtain ⟨yo, yc, rfl, hy, _, _, _, hb⟩ := hP.yes o2.out (P3.bytes_length _)
  have P1 := P1.out.next hb
  have Q1 := Q1.out.next hb
  clear c0 c1 c2 c3 c4 c5
  obtain ⟨c0, c1, c2⟩ := P1.cells
  obtain ⟨c3, c4, c5⟩ := Q1.cells
  have P1 := Lib.hid P1
  have Q1 := Lib.hid Q1
  have hx := Lib.hid (Reads.below hx.out hb)
  have hq := Lib.hid (hq.out.trans (hb.mono hq.out.size))
  have q1 : ∀ n, (convert 31 9 (.slice xo 16 xc)).run Try.prog (w3.drewN n) = .ok (.string (strOf p.bytes)) (w3.drewN n) := fun n => str_at 16 xc (Reads.drewN hx.out n) (P3.bytes_length _)
  have q2 : ∀ n, (convert 31 9 (.slice yo 16 yc)).run Try.prog (w3.drewN n) = .ok (.string (strOf q.bytes)) (w3.drewN n) := fun n => str_at 16 yc (Reads.drewN hy.out n) (P3.bytes_length _)
  have q3 : (convert 31 9 (.slice xo 16 xc)).run Try.prog w3 = .ok (.string (strOf p.bytes)) w3 := q1 0
  have q4 : (convert 31 9 (.slice yo 16 yc)).run Try.prog w3 = .ok (.string (strOf q.bytes)) w3 := q2 0
  have hs := hs.out
  have e1 := e1.out
  have e2 := e2.out

  go_wp2
  go_quiet (fail)
  go_wp2
  go_ret
  exact ⟨rfl, below_drewN' hq.out _⟩

set_option maxHeartbeats 4000000 in
theorem way_n3 (p q : P3) (w : World) (hp : p.Fit) (hq0 : q.Fit) (h1 : p.rightB = true) (h2 : q.rightB = true) (hne : p ≠ q) (e1 : (p.a == q.a) = true) (e2 : ((p.b : Int) == (q.b : Int)) = true) (e3 : ((p.s : Int) == (q.s : Int)) = false) :
    Calls Try.prog 8 #[p3V p, p3V q] w fun e w' => e = .returned (.bool true) ∧ Below w.heap.size w w' := by
  have hs := str_ne (fun e => hne (bytes_inj hp hq0 h1 h2 e))
  have hs := Lib.hid hs
  clear hne
  have e1 := Lib.hid e1
  have e2 := Lib.hid e2
  have e3 := Lib.hid e3
  have o1 : Hid (p.bytesO = some p.bytes) := Lib.hid (by unfold P3.bytesO; rw [h1]; rfl)
  have o2 : Hid (q.bytesO = some q.bytes) := Lib.hid (by unfold P3.bytesO; rw [h2]; rfl)
  have h1 := Lib.hid h1
  have h2 := Lib.hid h2
  have hB1 := fun W => Bytes_any p.a p.b p.s W hp
  have hB2 := fun W => Bytes_any q.a q.b q.s W hq0
  have hR1 := fun W => Right_any p.a p.b p.s W hp
  have hR2 := fun W => Right_any q.a q.b q.s W hq0
  have hB1 := Lib.hid hB1
  have hB2 := Lib.hid hB2
  have hR1 := Lib.hid hR1
  have hR2 := Lib.hid hR2
  have hp := Lib.hid hp
  have hq0 := Lib.hid hq0
  have hq := Lib.hid (((Below.refl w.heap.size w).alloc (Nat.le_refl _) (.cells #[.int .i64 p.a, .int .u64 (p.b : Int), .int .u32 (p.s : Int)] 26)).alloc (by simp) (.cells #[.int .i64 q.a, .int .u64 (q.b : Int), .int .u32 (q.s : Int)] 26))
  have P1 := (PtrAt.first w p).alloc (.cells #[.int .i64 q.a, .int .u64 (q.b : Int), .int .u32 (q.s : Int)] 26)
  have Q1 := PtrAt.first (w.alloc (.cells #[.int .i64 p.a, .int .u64 (p.b : Int), .int .u32 (p.s : Int)] 26)) q
  rw [show (w.alloc (.cells #[.int .i64 p.a, .int .u64 (p.b : Int), .int .u32 (p.s : Int)] 26)).heap.size = w.heap.size + 1 from by simp] at Q1
  obtain ⟨c0, c1, c2⟩ := P1.cells
  obtain ⟨c3, c4, c5⟩ := Q1.cells
  have P1 := Lib.hid P1
  have Q1 := Lib.hid Q1
  unfold p3V
  go_enter Try.func8, Try.ntmps8
  go_wp2_with fail
  refine (alive_any _).mono ?_
  rintro e w1 ⟨rfl, hb⟩
  have P1 := P1.out.next hb
  have Q1 := Q1.out.next hb
  clear c0 c1 c2 c3 c4 c5
  obtain ⟨c0, c1, c2⟩ := P1.cells
  obtain ⟨c3, c4, c5⟩ := Q1.cells
  have P1 := Lib.hid P1
  have Q1 := Lib.hid Q1
  have hq := Lib.hid (hq.out.trans (hb.mono hq.out.size))
  go_wp2_with fail
  refine (hB1.out _).mono ?_
  intro e w2 hP
  obtain ⟨xo, xc, rfl, hx, _, _, _, hb⟩ := hP.yes o1.out (P3.bytes_length _)
  have P1 := P1.out.next hb
  have Q1 := Q1.out.next hb
  clear c0 c1 c2 c3 c4 c5
  obtain ⟨c0, c1, c2⟩ := P1.cells
  obtain ⟨c3, c4, c5⟩ := Q1.cells
  have P1 := Lib.hid P1
  have Q1 := Lib.hid Q1
  have hq := Lib.hid (hq.out.trans (hb.mono hq.out.size))
  go_wp2_with fail
  refine (hB2.out _).mono ?_
  intro e w3 hP
  obtain ⟨yo, yc, rfl, hy, _, _, _, hb⟩ := hP.yes o2.out (P3.bytes_length _)
  have P1 := P1.out.next hb
  have Q1 := Q1.out.next hb
  clear c0 c1 c2 c3 c4 c5
  obtain ⟨c0, c1, c2⟩ := P1.cells
  obtain ⟨c3, c4, c5⟩ := Q1.cells
  have P1 := Lib.hid P1
  have Q1 := Lib.hid Q1
  have hx := Lib.hid (Reads.below hx.out hb)
  have hq := Lib.hid (hq.out.trans (hb.mono hq.out.size))
  have q1 : ∀ n, (convert 31 9 (.slice xo 16 xc)).run Try.prog (w3.drewN n) = .ok (.string (strOf p.bytes)) (w3.drewN n) := fun n => str_at 16 xc (Reads.drewN hx.out n) (P3.bytes_length _)
  have q2 : ∀ n, (convert 31 9 (.slice yo 16 yc)).run Try.prog (w3.drewN n) = .ok (.string (strOf q.bytes)) (w3.drewN n) := fun n => str_at 16 yc (Reads.drewN hy.out n) (P3.bytes_length _)
  have q3 : (convert 31 9 (.slice xo 16 xc)).run Try.prog w3 = .ok (.string (strOf p.bytes)) w3 := q1 0
  have q4 : (convert 31 9 (.slice yo 16 yc)).run Try.prog w3 = .ok (.string (strOf q.bytes)) w3 := q2 0
  have hs := hs.out
  have e1 := e1.out
  have e2 := e2.out
  have e3 := e3.out

  go_wp2
  go_quiet (fail)
  go_wp2
  go_ret
  exact ⟨rfl, below_drewN' hq.out _⟩

set_option maxHeartbeats 4000000 in
theorem way_eq (p q : P3) (w : World) (hp : p.Fit) (hq0 : q.Fit) (h1 : p.rightB = true) (h2 : q.rightB = true) (heq : p = q) :
    Calls Try.prog 8 #[p3V p, p3V q] w fun e w' => e = .returned (.bool true) ∧ Below w.heap.size w w' := by
  have heq1 := Lib.hid heq
  clear heq
  have o1 : Hid (p.bytesO = some p.bytes) := Lib.hid (by unfold P3.bytesO; rw [h1]; rfl)
  have o2 : Hid (q.bytesO = some q.bytes) := Lib.hid (by unfold P3.bytesO; rw [h2]; rfl)
  have h1 := Lib.hid h1
  have h2 := Lib.hid h2
  have hB1 := fun W => Bytes_any p.a p.b p.s W hp
  have hB2 := fun W => Bytes_any q.a q.b q.s W hq0
  have hR1 := fun W => Right_any p.a p.b p.s W hp
  have hR2 := fun W => Right_any q.a q.b q.s W hq0
  have hB1 := Lib.hid hB1
  have hB2 := Lib.hid hB2
  have hR1 := Lib.hid hR1
  have hR2 := Lib.hid hR2
  have hp := Lib.hid hp
  have hq0 := Lib.hid hq0
  have hq := Lib.hid (((Below.refl w.heap.size w).alloc (Nat.le_refl _) (.cells #[.int .i64 p.a, .int .u64 (p.b : Int), .int .u32 (p.s : Int)] 26)).alloc (by simp) (.cells #[.int .i64 q.a, .int .u64 (q.b : Int), .int .u32 (q.s : Int)] 26))
  have P1 := (PtrAt.first w p).alloc (.cells #[.int .i64 q.a, .int .u64 (q.b : Int), .int .u32 (q.s : Int)] 26)
  have Q1 := PtrAt.first (w.alloc (.cells #[.int .i64 p.a, .int .u64 (p.b : Int), .int .u32 (p.s : Int)] 26)) q
  rw [show (w.alloc (.cells #[.int .i64 p.a, .int .u64 (p.b : Int), .int .u32 (p.s : Int)] 26)).heap.size = w.heap.size + 1 from by simp] at Q1
  obtain ⟨c0, c1, c2⟩ := P1.cells
  obtain ⟨c3, c4, c5⟩ := Q1.cells
  have P1 := Lib.hid P1
  have Q1 := Lib.hid Q1
  unfold p3V
  go_enter Try.func8, Try.ntmps8
  go_wp2_with fail
  refine (alive_any _).mono ?_
  rintro e w1 ⟨rfl, hb⟩
  have P1 := P1.out.next hb
  have Q1 := Q1.out.next hb
  clear c0 c1 c2 c3 c4 c5
  obtain ⟨c0, c1, c2⟩ := P1.cells
  obtain ⟨c3, c4, c5⟩ := Q1.cells
  have P1 := Lib.hid P1
  have Q1 := Lib.hid Q1
  have hq := Lib.hid (hq.out.trans (hb.mono hq.out.size))
  go_wp2_with fail
  refine (hB1.out _).mono ?_
  intro e w2 hP
  obtain ⟨xo, xc, rfl, hx, _, _, _, hb⟩ := hP.yes o1.out (P3.bytes_length _)
  have P1 := P1.out.next hb
  have Q1 := Q1.out.next hb
  clear c0 c1 c2 c3 c4 c5
  obtain ⟨c0, c1, c2⟩ := P1.cells
  obtain ⟨c3, c4, c5⟩ := Q1.cells
  have P1 := Lib.hid P1
  have Q1 := Lib.hid Q1
  have hq := Lib.hid (hq.out.trans (hb.mono hq.out.size))
  go_wp2_with fail
  refine (hB2.out _).mono ?_
  intro e w3 hP
  obtain ⟨yo, yc, rfl, hy, _, _, _, hb⟩ := hP.yes o2.out (P3.bytes_length _)
  have P1 := P1.out.next hb
  have Q1 := Q1.out.next hb
  clear c0 c1 c2 c3 c4 c5
  obtain ⟨c0, c1, c2⟩ := P1.cells
  obtain ⟨c3, c4, c5⟩ := Q1.cells
  have P1 := Lib.hid P1
  have Q1 := Lib.hid Q1
  have hx := Lib.hid (Reads.below hx.out hb)
  have hq := Lib.hid (hq.out.trans (hb.mono hq.out.size))
  have q1 : ∀ n, (convert 31 9 (.slice xo 16 xc)).run Try.prog (w3.drewN n) = .ok (.string (strOf p.bytes)) (w3.drewN n) := fun n => str_at 16 xc (Reads.drewN hx.out n) (P3.bytes_length _)
  have q2 : ∀ n, (convert 31 9 (.slice yo 16 yc)).run Try.prog (w3.drewN n) = .ok (.string (strOf q.bytes)) (w3.drewN n) := fun n => str_at 16 yc (Reads.drewN hy.out n) (P3.bytes_length _)
  have q3 : (convert 31 9 (.slice xo 16 xc)).run Try.prog w3 = .ok (.string (strOf p.bytes)) w3 := q1 0
  have q4 : (convert 31 9 (.slice yo 16 yc)).run Try.prog w3 = .ok (.string (strOf q.bytes)) w3 := q2 0
  rw [← heq1.out] at q2 q4
  have e1 : (p.a == q.a) = true := by rw [heq1.out]; simp
  have e2 : ((p.b : Int) == (q.b : Int)) = true := by rw [heq1.out]; simp
  have e3 : ((p.s : Int) == (q.s : Int)) = true := by rw [heq1.out]; simp

  go_wp2
  go_quiet (fail)
  go_wp2
  go_ret
  exact ⟨rfl, below_drewN' hq.out _⟩


theorem walk (p q : P3) (w : World) (hp : p.Fit) (hq0 : q.Fit) :
    Calls Try.prog 8 #[p3V p, p3V q] w fun e w' => e = .returned (.bool true) ∧ Below w.heap.size w w' := by
  cases h1 : p.rightB with
  | false => exact way_p p q w hp hq0 h1
  | true =>
    cases h2 : q.rightB with
    | false => exact way_q p q w hp hq0 h1 h2
    | true =>
      by_cases he : p = q
      · exact way_eq p q w hp hq0 h1 h2 he
      · cases e1 : (p.a == q.a) with
        | false => exact way_n1 p q w hp hq0 h1 h2 he e1
        | true =>
          cases e2 : ((p.b : Int) == (q.b : Int)) with
          | false => exact way_n2 p q w hp hq0 h1 h2 he e1 e2
          | true =>
            cases e3 : ((p.s : Int) == (q.s : Int)) with
            | false => exact way_n3 p q w hp hq0 h1 h2 he e1 e2 e3
            | true => exact absurd (P3.ext' (by simpa using e1) (by have := eq_of_beq e2; omega) (by have := eq_of_beq e3; omega)) he


theorem own : ownKnob Try.prog.godebug = none := by kernel_rfl

set_option maxRecDepth 100000 in
theorem lifted (os : Os) (started : os.Started) (H : Type) (enc : TypeId × Value → H) :
    ReturnsInHanded {} Try.checked os 8 .any (Rows.ptrApartSpec.pre6 enc Try.prog Try.f8 Rows.ptrApartRow.domain false) (Rows.ptrApartSpec.post enc Try.prog Try.f8 false true false false) := by
  refine returnsInHanded_of_change_sized (C := Try.checked) own started (by kernel_rfl) Try.func8
    (ChangeSpec.witness6 (enc := enc) (C := Try.checked) false ⟨#[], #[.agg #[.int .i64 0, .int .u64 0, .int .u32 0], .agg #[.int .i64 0, .int .u64 0, .int .u32 0]], []⟩ 8 (by kernel_rfl) (by kernel_rfl) (by kernel_rfl) (by kernel_rfl)) ?_
  intro W base args ds gs before hval0 hW hcnd hsz0 _
  have hval : ∀ (j : Nat) t v, Try.f8.params[j]? = some t → args[j]? = some v → Value.okWide Try.prog W .any base t v := hval0
  have hsz : (DataW.weightsEach Try.prog (Try.f8.params.toList ++ Rows.ptrApartSpec.plain.varTypes Try.prog) (ds ++ gs)).all (· ≤ reachBytes) = true := hsz0
  have hW' := hW
  obtain ⟨p, q, hA0, hV, rfl, hfz, hnd⟩ := hW
  have hA : DataW.TrodAll enc Try.prog W 0 (fun _ => true) true Try.f8.params.toList args.toList ds p := hA0
  rw [Try.params8] at hA hval hsz
  obtain ⟨v0, vs0, d0, ds0, p0, q0, hargs, rfl, rfl, h0, r0⟩ := trodAll_cons hA
  obtain ⟨v1, vs1, d1, ds1, p1, q1, rfl, rfl, rfl, h1, r1⟩ := trodAll_cons r0
  obtain ⟨rfl, rfl, rfl⟩ := trodAll_nil r1
  obtain rfl : args = #[v0, v1] := by cases args; simp_all
  obtain ⟨rfl, rfl⟩ := trodVars_none hV
  obtain ⟨a0, rfl, rfl, rfl, wf0⟩ := open_ptr (hval 0 26 v0 rfl rfl) h0
  obtain ⟨a1, rfl, rfl, rfl, wf1⟩ := open_ptr (hval 1 26 v1 rfl rfl) h1
  clear hA0 hval0 hsz0
  refine (walk a0 a1 W wf0 wf1).mono fun e W' ⟨he, bel⟩ => ?_
  subst he
  exact ⟨_, rfl, _, _, _, [], _, [], hW', trodAll_mk1 (shut_bool Try.underlying4 _), (trodAll_cons_mk (shut_ptr wf0) (trodAll_cons_mk (shut_ptr wf1) trodAll_mk0)), rfl, bel.frame _, fun h => by cases h⟩

theorem proved : Rows.PtrApartSaid :=
  OpenClaim.holds_of_wide 8 Try.f8 rfl rfl rfl rfl rfl rfl rfl ⟨rfl, rfl, rfl, rfl, rfl⟩ rfl rfl rfl rfl rfl (by kernel_rfl) Try.func8 (by kernel_rfl)
    (of_decide_eq_true (by kernel_rfl)) (by unfold Func.isWrapper; first | (rw [if_pos (by decide +kernel)]; kernel_rfl) | (rw [if_neg (by decide +kernel)]; exact ⟨rfl, rfl⟩))
    (fun os started H enc _ => lifted os started H enc)
end Go.Proofs.Ytlkfmifjfcjcoaa.lawPtrApart
