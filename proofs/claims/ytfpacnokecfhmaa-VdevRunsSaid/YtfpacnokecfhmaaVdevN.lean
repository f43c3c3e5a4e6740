/- A device as an object: each call, whatever its blocks are. -/
import Derived.Test.YtfpacnokecfhmaaVdevL
import Derived.Test.YtfpacnokecfhmaaWant
namespace Go.Proofs.Ytfpacnokecfhmaa
open Go.ChangeShapes Go.WideShapes Go.ChangeAt Go.RowKit
set_option linter.unusedVariables false

section
variable {w : World} {d : Nat} {F : Nat → Prop} {m : DevM} (h : IsDev w d F m)
theorem o_Len (h : IsDev w d F m) : Calls Try.prog 11 #[.pointer (some ⟨d, 0, none⟩)] w fun e w' => e = .returned (.int .i64 (m.stable.length : Int)) ∧ w = w' := by
  obtain ⟨L, rfl, h1, h2, _⟩ := h; exact Len_any L m w h1
theorem o_Pending (h : IsDev w d F m) : Calls Try.prog 25 #[.pointer (some ⟨d, 0, none⟩)] w fun e w' => e = .returned (.int .i64 (m.pending.length : Int)) ∧ w = w' := by
  obtain ⟨L, rfl, h1, h2, _⟩ := h; exact Pending_any L m w h1
theorem o_Ops (h : IsDev w d F m) : Calls Try.prog 26 #[.pointer (some ⟨d, 0, none⟩)] w fun e w' => e = .returned (.int .i64 (m.ops : Int)) ∧ w = w' := by
  obtain ⟨L, rfl, h1, h2, _⟩ := h; exact Ops_any L m w h1
theorem o_Dead (h : IsDev w d F m) : Calls Try.prog 27 #[.pointer (some ⟨d, 0, none⟩)] w fun e w' => e = .returned (.bool m.dead) ∧ w = w' := by
  obtain ⟨L, rfl, h1, h2, _⟩ := h; exact Dead_any L m w h1
theorem o_Stable (h : IsDev w d F m) (i : Int) (hi : I64 i) : Calls Try.prog 28 #[.pointer (some ⟨d, 0, none⟩), .int .i64 i] w fun e w' => e = .returned (.agg (secL (m.stab i)).toArray) ∧ Below w.heap.size w w' := by
  obtain ⟨L, rfl, h1, h2, _⟩ := h; exact Stable_any L m i hi w h1
theorem o_Break (h : IsDev w d F m) (n : Int) (hn : I64 n) : Calls Try.prog 19 #[.pointer (some ⟨d, 0, none⟩), .int .i64 n] w fun e w' => e = .returned (.tuple #[]) ∧ Turned w d F (m.brk n) w' := by
  obtain ⟨L, rfl, h1, h2, _⟩ := h
  refine (Break_any L m w h1 n hn).mono ?_
  rintro e w' ⟨rfl, h3, h4, _⟩
  exact ⟨rfl, (DevStep.of h3 h4 fun i e => .inl e).turned h2⟩
theorem o_Read (h : IsDev w d F m) (i : Int) (hi : I64 i) : Calls Try.prog 13 #[.pointer (some ⟨d, 0, none⟩), .int .i64 i] w fun e w' => e = .returned (.tuple #[.agg (secL (m.read i).1).toArray, .int .i64 (m.read i).2]) ∧ Turned w d F m.tick w' := by
  obtain ⟨L, rfl, h1, h2, _⟩ := h
  refine (Read_any L m i hi w h1).mono ?_
  rintro e w' ⟨rfl, h3, h4⟩
  exact ⟨rfl, (DevStep.of h3 h4 fun i e => .inl e).turned h2⟩
theorem o_Write (h : IsDev w d F m) (i : Int) (hi : I64 i) (s : Sec) (hp : m.pending.length ≤ 1000000000) : Calls Try.prog 15 #[.pointer (some ⟨d, 0, none⟩), .int .i64 i, .agg (secL s).toArray] w fun e w' => e = .returned (.int .i64 (m.write i s).2) ∧ Turned w d F (m.write i s).1 w' := by
  obtain ⟨L, rfl, h1, h2, _⟩ := h
  refine (Write_any L m i hi s w h1 hp).mono ?_
  rintro e w' ⟨rfl, h3⟩
  exact ⟨rfl, h3.turned h2⟩
theorem o_Flush (h : IsDev w d F m) (hp : m.pending.length ≤ 1000000000) : Calls Try.prog 17 #[.pointer (some ⟨d, 0, none⟩)] w fun e w' => e = .returned (.int .i64 m.flush.2) ∧ Turned w d F m.flush.1 w' := by
  obtain ⟨L, rfl, h1, h2, _⟩ := h
  refine (Flush_any L m w h1 hp).mono ?_
  rintro e w' ⟨rfl, h3⟩
  exact ⟨rfl, h3.turned h2⟩
theorem o_Rot (h : IsDev w d F m) (i : Int) (hi : I64 i) (s : Sec) (hp : m.pending.length ≤ 1000000000) : Calls Try.prog 23 #[.pointer (some ⟨d, 0, none⟩), .int .i64 i, .agg (secL s).toArray] w fun e w' => e = .returned (.int .i64 (m.rot i s).2) ∧ Turned w d F (m.rot i s).1 w' := by
  obtain ⟨L, rfl, h1, h2, _⟩ := h
  refine (Rot_any L m i hi s w h1 hp).mono ?_
  rintro e w' ⟨rfl, h3⟩
  exact ⟨rfl, h3.turned h2⟩
theorem o_Crash (h : IsDev w d F m) (ao : Option Addr) (cap : Nat) (bs : List Bool) (hp : m.pending.length ≤ 1000000000) (hbl : bs.length ≤ 9223372036854775807) (hr : Reads w ao (boolsV bs)) (hn : bs ≠ [] → ∀ a, ao = some a → ¬ F a.block) :
    Calls Try.prog 21 #[.pointer (some ⟨d, 0, none⟩), .slice ao bs.length cap] w fun e w' => e = .returned (.tuple #[]) ∧ Turned w d F (m.crash bs) w' := by
  obtain ⟨L, rfl, h1, h2, _⟩ := h
  refine (Crash_any L m ao cap bs w h1 hp hbl hr (fun hb a ha hf => hn hb a ha (h2 _ hf))).mono ?_
  rintro e w' ⟨rfl, h3⟩
  exact ⟨rfl, h3.turned h2⟩
end

/-- of a slice of bools a copy is handed in -/
theorem infoBool : (Try.prog.info? 4).map (fun i => (i.zero, i.size, i.bytes)) = some (some (.bool false), 1, 1) := by kernel_rfl

def sec1 : Sec := ⟨1 :: List.replicate 127 0, by simp⟩
def sec2 : Sec := ⟨2 :: List.replicate 127 0, by simp⟩
theorem built_sec1 : Try.prog.built 33 [(0, .int .u8 1)] = some (secL sec1).toArray := by kernel_rfl
theorem built_sec2 : Try.prog.built 33 [(0, .int .u8 2)] = some (secL sec2).toArray := by kernel_rfl

/-- what is known of an object's blocks, call by call -/
theorem Grows.low {n B : Nat} {F F' : Nat → Prop} (h : Grows n F F') (hF : ∀ k, F k → B ≤ k) (hB : B ≤ n) : ∀ k, F' k → B ≤ k := fun k hk => by
  rcases h k hk with h | h
  · exact hF k h
  · omega
theorem Grows.not {n x : Nat} {F F' : Nat → Prop} (h : Grows n F F') (hx : ¬ F x) (hlt : x < n) : ¬ F' x := fun hk => by
  rcases h x hk with h | h
  · exact hx h
  · omega

theorem Reads.of_blk {w : World} {g : Nat} {t : TypeId} {cs : List Value} (h : Blk w g t cs) : Reads w (some ⟨g, 0, none⟩) cs := fun i hi => ⟨g, 0, rfl, by rw [h.cell, Nat.zero_add, List.getElem?_eq_getElem hi]⟩

set_option maxRecDepth 100000 in
set_option maxHeartbeats 400000 in
theorem alive_any (w : World) : Calls Try.prog 9 #[] w fun e w' => e = .returned (.bool true) ∧ Below w.heap.size w w' := by
  obtain ⟨m0, e0⟩ : ∃ m, Hid (m = DevM.fresh 4) := ⟨_, Lib.hid rfl⟩
  obtain ⟨m1, e1⟩ : ∃ m, Hid (m = (m0.write 0 sec1).1) := ⟨_, Lib.hid rfl⟩
  obtain ⟨m2, e2⟩ : ∃ m, Hid (m = (m1.write 1 sec2).1) := ⟨_, Lib.hid rfl⟩
  obtain ⟨m4, e4⟩ : ∃ m, Hid (m = m2.tick.crash [false, true]) := ⟨_, Lib.hid rfl⟩
  have f1 : Hid ((m0.write 0 sec1).2 = 0) := Lib.hid (by rw [e0.out]; rfl)
  have f2 : Hid ((m1.write 1 sec2).2 = 0) := Lib.hid (by rw [e1.out, e0.out]; rfl)
  have f3 : Hid (m2.pending.length = 2) := Lib.hid (by rw [e2.out, e1.out, e0.out]; rfl)
  have f4 : Hid (m2.read 0 = (sec1, 0)) := Lib.hid (by rw [e2.out, e1.out, e0.out]; rfl)
  have f5 : Hid (m4.stab 0 = sec0) := Lib.hid (by rw [e4.out, e2.out, e1.out, e0.out]; rfl)
  have f6 : Hid (m4.stab 1 = sec2) := Lib.hid (by rw [e4.out, e2.out, e1.out, e0.out]; rfl)
  have f7 : Hid (m4.pending.length = 0) := Lib.hid (by rw [e4.out]; rfl)
  have f8 : Hid (m4.ops = 3) := Lib.hid (by rw [e4.out, e2.out, e1.out, e0.out]; rfl)
  have p0 : Hid (m0.pending.length ≤ 1000000000) := Lib.hid (by rw [e0.out]; show 0 ≤ _; omega)
  have p1 : Hid (m1.pending.length ≤ 1000000000) := Lib.hid (by rw [e1.out, e0.out]; show 1 ≤ _; omega)
  have p2 : Hid (m2.tick.pending.length ≤ 1000000000) := Lib.hid (by show m2.pending.length ≤ _; rw [f3.out]; omega)
  have hz := zeroSec
  have he := eqSec
  go_enter Try.func9, Try.ntmps9
  go_wp2_with fail
  refine (New_any 4 (by unfold I64; omega) w).mono ?_
  rintro e w1 ⟨d, F1, rfl, h1, l1, b1⟩
  rw [show DevM.newLen 4 = 4 from rfl, ← e0.out] at h1
  have h1 := Lib.hid h1
  have l1 := Lib.hid l1
  have b1 := Lib.hid b1
  go_wp2_with (refine wpList_build rfl 33 _ rfl (secL sec1) built_sec1 ?_)
  refine (o_Write h1.out 0 (by unfold I64; omega) sec1 p0.out).mono ?_
  rintro e w2 ⟨rfl, F2, h2, k2, g2⟩
  rw [← e1.out] at h2
  rw [f1.out]
  have l2 := Lib.hid (g2.low l1.out b1.out.size)
  have b2 := Lib.hid (Kept.out b1.out k2 (fun i _ => l1.out i) b1.out.size)
  have h2 := Lib.hid h2
  clear k2 g2
  go_wp2_with (refine wpList_build rfl 33 _ rfl (secL sec2) built_sec2 ?_)
  refine (o_Write h2.out 1 (by unfold I64; omega) sec2 p1.out).mono ?_
  rintro e w3 ⟨rfl, F3, h3, k3, g3⟩
  rw [← e2.out] at h3
  rw [f2.out]
  have l3 := Lib.hid (g3.low l2.out b2.out.size)
  have b3 := Lib.hid (Kept.out b2.out k3 (fun i _ => l2.out i) b2.out.size)
  have h3 := Lib.hid h3
  clear k3 g3
  go_wp2_with fail
  refine (o_Pending h3.out).mono ?_
  rintro e w4 ⟨rfl, rfl⟩
  rw [f3.out]
  go_wp2_with fail
  refine (o_Read h3.out 0 (by unfold I64; omega)).mono ?_
  rintro e w4 ⟨rfl, F4, h4, k4, g4⟩
  rw [f4.out]
  have l4 := Lib.hid (g4.low l3.out b3.out.size)
  have b4 := Lib.hid (Kept.out b3.out k4 (fun i _ => l3.out i) b3.out.size)
  have h4 := Lib.hid h4
  clear k4 g4
  go_wp2_with (refine wpList_store_blk rfl 33 _ _ rfl w4.heap.size 0 (by rfl) (secL sec1) (by rfl) _ (secL sec0) (secL sec1) (Blk.new _ _ _) (by simp [secL_length]) (secL_one _) (infoSecL _) (whole_new (by simp [secL_length])) ?_
               intro w5 hb5 k5 z5
               have h5 := Lib.hid ((h4.out.alloc (.cells (secL sec0).toArray 33)).kept k5 (fun i hi e => by have := h4.out.lt i hi; omega))
               have b5 := Lib.hid (Kept.out (b4.out.alloc b4.out.size _) k5 (fun i _ e => by have := b4.out.size; omega) (by have := b4.out.size; simp; omega))
               have hb5 := Lib.hid hb5
               clear k5 z5)
  have hrd := Lib.hid (Reads.of_blk (Blk.newA w5 4 #[Value.bool false, Value.bool true]))
  refine (o_Crash (h5.out.alloc _) _ 2 [false, true] p2.out (by simp) hrd.out (fun _ a ha hf => by cases ha; have := h5.out.lt _ hf; simp at this)).mono ?_
  rintro e w6 ⟨rfl, F6, h6, k6, g6⟩
  rw [← e4.out] at h6
  have l6 := Lib.hid (g6.low l4.out (by have := b5.out.size; simp; omega))
  have b6 := Lib.hid (Kept.out (b5.out.alloc b5.out.size _) k6 (fun i _ => l4.out i) (by have := b5.out.size; simp; omega))
  have hb6 := Lib.hid ((hb5.out.alloc (.cells #[Value.bool false, Value.bool true] 4)).kept k6 (fun hf => by have := h4.out.lt _ hf; omega))
  have h6 := Lib.hid h6
  clear k6 g6
  go_wp2_with (first
    | (refine wantList_load (by rfl) 33 _ rfl w4.heap.size 0 (by rfl) (secL sec1) _ (hb6.out.range fun j v hv => by simpa using hv) Try.underlying33 rfl (infoSecL _) ?_)
    | (refine wantList_build (by rfl) 33 _ rfl (secL sec1) _ (by rfl) built_sec1 ?_))
  refine (o_Stable h6.out 0 (by unfold I64; omega)).mono ?_
  rintro e w7 ⟨rfl, b7⟩
  rw [f5.out]
  have h7 := Lib.hid (h6.out.below b7)
  have q7 := Lib.hid (b6.out.trans (b7.mono b6.out.size))
  clear b7
  go_wp2_with (refine wantList_build (by rfl) 33 [] rfl (secL sec0) _ (by rfl) built_sec0 ?_)
  refine (o_Stable h7.out 1 (by unfold I64; omega)).mono ?_
  rintro e w8 ⟨rfl, b8⟩
  rw [f6.out]
  have h8 := Lib.hid (h7.out.below b8)
  have q8 := Lib.hid (q7.out.trans (b8.mono q7.out.size))
  clear b8
  go_wp2_with (refine wantList_build (by rfl) 33 _ rfl (secL sec2) _ (by rfl) built_sec2 ?_)
  refine (o_Pending h8.out).mono ?_
  rintro e w9 ⟨rfl, rfl⟩
  rw [f7.out]
  go_wp2_with fail
  refine (o_Ops h8.out).mono ?_
  rintro e w9 ⟨rfl, rfl⟩
  rw [f8.out]
  go_wp2
  go_ret
  exact ⟨by simp, q8.out⟩
end Go.Proofs.Ytfpacnokecfhmaa
