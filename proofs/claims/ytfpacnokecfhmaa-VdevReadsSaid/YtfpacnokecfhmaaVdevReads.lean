/- VdevReads, for every input: the law returns true and each argument reads behind the call as before. No condition. -/
import Derived.Test.YtfpacnokecfhmaaActW
namespace Go.Proofs.Ytfpacnokecfhmaa.lawVdevReads
open Go.ChangeShapes Go.WideShapes Go.ChangeAt Go.RowKit Go.Deep
set_option linter.unusedVariables false

structure Plain (m : DevM) (k : Nat) : Prop where
  len : m.stable.length = 8
  dead : m.dead = false
  left : m.left = -1
  pend : m.pending.length ≤ k
namespace Plain
variable {m : DevM} {k : Nat} (h : Plain m k)
theorem has (h : Plain m k) (i : Int) : m.has i = (decide (0 ≤ i) && decide (i < 8)) := by unfold DevM.has; rw [h.len]; rfl
theorem succ (h : Plain m k) : Plain m (k + 1) := ⟨h.len, h.dead, h.left, by have := h.pend; omega⟩
theorem lasts (h : Plain m k) : m.lasts = true := by unfold DevM.lasts; rw [h.dead, h.left]; rfl
theorem spend (h : Plain m k) : m.tick.spend = m.tick := by
  have : m.tick.lasts = true := h.lasts
  unfold DevM.spend
  rw [this, if_pos rfl, if_neg (by show ¬ 0 < m.left; rw [h.left]; decide)]
theorem write_in (h : Plain m k) (i : Int) (s : Sec) (hi : m.has i = true) : ∃ m', m.write i s = (m', 0) ∧ Plain m' (k + 1) ∧ m'.now = m.now.set i.toNat s := by
  refine ⟨{ m.tick with pending := m.pending ++ [(i.toNat, s)] }, ?_, ⟨h.len, h.dead, h.left, ?_⟩, putAll_snoc _ _ _⟩
  · unfold DevM.write
    rw [hi, h.lasts, h.spend]
    rfl
  · have := h.pend
    simp; omega
theorem write_out (h : Plain m k) (i : Int) (s : Sec) (hi : m.has i = false) : ∃ m', m.write i s = (m', 41) ∧ Plain m' (k + 1) ∧ m'.now = m.now :=
  ⟨m.tick, by unfold DevM.write; rw [hi]; rfl, ⟨h.len, h.dead, h.left, by have := h.pend; show m.pending.length ≤ _; omega⟩, rfl⟩
theorem rot_in (h : Plain m k) (i : Int) (s : Sec) (hi : m.has i = true) : ∃ m', m.rot i s = (m', 0) ∧ Plain m' (k + 1) ∧ m'.now = m.now.set i.toNat s := by
  refine ⟨{ m with stable := m.stable.set i.toNat s, pending := m.pending.map fun p => (p.1, if p.1 = i.toNat then s else p.2) }, ?_, ⟨by rw [List.length_set]; exact h.len, h.dead, h.left, ?_⟩, rot_now _ _ _ _⟩
  · unfold DevM.rot
    rw [hi]
    rfl
  · have := h.pend
    simp; omega
theorem rot_out (h : Plain m k) (i : Int) (s : Sec) (hi : m.has i = false) : ∃ m', m.rot i s = (m', 41) ∧ Plain m' (k + 1) ∧ m'.now = m.now :=
  ⟨m, by unfold DevM.rot; rw [hi]; rfl, h.succ, rfl⟩
theorem flush_ (h : Plain m k) : ∃ m', m.flush = (m', 0) ∧ Plain m' (k + 1) ∧ m'.now = m.now := by
  refine ⟨m.tick.settle (fun _ => true), ?_, ⟨(putAll_length _ _).trans h.len, h.dead, h.left, Nat.zero_le _⟩, ?_⟩
  · unfold DevM.flush
    rw [h.lasts, h.spend]
    rfl
  · show putAll (putAll m.stable (DevM.kept (fun _ => true) m.pending)) [] = m.now
    rw [kept_true]
    rfl
end Plain
theorem rep_getD (n j : Nat) : (List.replicate n sec0).getD j sec0 = sec0 := by
  rw [List.getD_eq_getElem?_getD, List.getElem?_replicate]
  split <;> rfl
theorem plain_fresh : Plain (DevM.fresh 8) 0 := ⟨rfl, rfl, rfl, Nat.le_refl _⟩
theorem has_bounds {m : DevM} {i : Int} (h : m.has i = true) : 0 ≤ i := by simp [DevM.has] at h; exact h.1

set_option maxRecDepth 100000 in
set_option maxHeartbeats 4000000 in
theorem way_yes (ao : Option Addr) (as_ : List ActM) (cap n : Nat) (at_ : Int) (w : World) (hacts : Acts w ao as_) (hn : Hid (as_.length = n)) (hn2 : n ≤ 200) (h0 : 0 ≤ at_) (h7 : at_ ≤ 7) :
    Calls Try.prog 6 #[.slice ao n cap, .int .i64 at_] w fun e w' => e = .returned (.bool true) ∧ Below w.heap.size w w' := by
  obtain ⟨j, hj⟩ : ∃ j : Nat, Hid (at_ = (j : Int)) := ⟨at_.toNat, Lib.hid (by omega)⟩
  have hacts := Lib.hid hacts
  have hz := zeroSec
  have hza := zeroAct
  have he := eqSec
  go_enter Try.func6, Try.ntmps6
  go_wp2_with fail
  refine (alive_any w).mono ?_
  rintro e wa ⟨rfl, ba⟩
  have ba := Lib.hid ba
  go_wp2_with fail
  refine (New_any 8 (by unfold I64; omega) wa).mono ?_
  rintro e wb ⟨d, F0, rfl, hd0, lo0, bb⟩
  rw [show DevM.newLen 8 = 8 from rfl] at hd0
  have q0 := Lib.hid (ba.out.trans (bb.mono ba.out.size))
  have lo0 := Lib.hid (fun k hk => Nat.le_trans ba.out.size (lo0 k hk))
  have hd0 := Lib.hid hd0
  clear bb
  go_wp2_with (first
    | (refine wantList_build (by rfl) 33 [] rfl (secL sec0) _ (by rfl) built_sec0 ?_)
    | (refine wantList_store (by rfl) 33 _ _ rfl wb.heap.size 0 (by rfl) (secL sec0) (by rfl) _ (secL sec0) (secL sec0) (Blk.new _ _ _) (by simp [secL_length]) (secL_one _) (infoSecL _) (whole_new (by simp [secL_length])) ?_
       intro wc hx k0 z0
       have ho := Lib.hid (Obj1.mk (B := w.heap.size) (x := wb.heap.size) ((hd0.out.alloc (.cells (secL sec0).toArray 33)).kept k0 (fun i hi e => by have := hd0.out.lt i hi; omega)) lo0.out (fun hf => by have := hd0.out.lt _ hf; omega))
       have qc := Lib.hid (Kept.out (q0.out.alloc q0.out.size _) k0 (fun i _ e => by have := q0.out.size; omega) (by have := q0.out.size; simp; omega))
       have hx := Lib.hid hx
       clear k0 z0))
  have hwb : w.heap.size ≤ wb.heap.size := q0.out.size
  go_loopw [34] (fun i wr => ∃ (k : Nat) (F : Nat → Prop) (m : DevM) (want : Sec), k ≤ n ∧ i = .int .i64 k ∧ Hid (Obj1 w.heap.size wr d F m wb.heap.size) ∧ Hid (Plain m k) ∧ Hid (m.now.getD j sec0 = want) ∧ Hid (Blk wr wb.heap.size 33 (secL want)) ∧ Hid (Below w.heap.size w wr))
    (fun i _ => n - (intOf i).toNat)
  case atStart => exact ⟨0, F0, DevM.fresh 8, sec0, by omega, rfl, ho, Lib.hid plain_fresh, Lib.hid (by
    have : (DevM.fresh 8).now = List.replicate 8 sec0 := rfl
    rw [this, rep_getD]), hx, qc⟩
  case round =>
    clear ho hx qc
    obtain ⟨k, F, m, want, hk, rfl, ho, hpl0, hw, hx, hb⟩ := hrel
    have hpl : m.pending.length ≤ 1000000000 := by have := hpl0.out.pend; omega
    have hbs : w.heap.size ≤ wr.heap.size := hb.out.size
    by_cases hlt : k < n
    · obtain ⟨b, off, rfl, hbb, hr⟩ := (hacts.out.below hb.out).range (k := k) (by rw [hn.out]; exact hlt)
      have hok : ActOk w (as_[k]'(by rw [hn.out]; exact hlt)) := hacts.out.each _ (List.getElem_mem _)
      obtain ⟨a, ha⟩ : ∃ a : ActM, Hid (a = as_[k]'(by rw [hn.out]; exact hlt)) := ⟨_, Lib.hid rfl⟩
      rw [← ha.out] at hr hok
      have hr := Lib.hid hr
      have hok := Lib.hid hok
      have hXne : ¬ (wb.heap.size = wr.heap.size) := fun e => by have := hx.out.lt; omega
      have hXne' : ¬ (wr.heap.size = wb.heap.size) := fun e => by have := hx.out.lt; omega
      have hAF : Hid (¬ F wr.heap.size) := Lib.hid (fun e => by have := ho.out.dev.lt _ e; omega)
      have i0 : (0 : Int) ≤ (k : Int) := by omega
      have i1 : (k : Int) < (n : Int) := by omega
      by_cases hk1 : a.kind = 1
      · have hkd := Lib.hid hk1
        clear hk1
        by_cases hrel2 : a.at_ = at_
        · have hin : m.has a.at_ = true := by rw [hrel2, hpl0.out.has]; simp; omega
          obtain ⟨m', hm0, hp0, hn0⟩ := hpl0.out.write_in a.at_ a.data hin
          have hres : Hid ((m.write a.at_ a.data).2 = 0) := Lib.hid (by rw [hm0])
          have hm' : Hid ((m.write a.at_ a.data).1 = m') := Lib.hid (by rw [hm0])
          have eAt : (a.at_ == at_) = true := by rw [hrel2]; simp
          have hn' := Lib.hid hn0
          have hp' := Lib.hid hp0
          clear hm0 hn0 hp0
          have hinH := Lib.hid hin
          have hrelH := Lib.hid hrel2
          clear hin hrel2
          go_wp2_with (first
            | (refine wantList_load (by rfl) 36 _ rfl b (off + k * 131) (by rfl) (actL a) _ hr.out Try.underlying36 rfl (infoActL _) ?_)
            | (refine wantList_store (by rfl) 36 _ _ rfl wr.heap.size 0 (by rfl) (actL a) (by rfl) _ (actL act0) (actL a) (Blk.new _ _ _) (by simp [actL_length]) (actL_one _) (infoActL _) (whole_new (by simp [actL_length])) ?_
               intro w1 hA1 k1 z1
               have hx1 := Lib.hid ((hx.out.alloc (.cells (actL act0).toArray 36)).kept k1 hXne)
               have ho1 := Lib.hid (Obj1.mk ((ho.out.dev.alloc (.cells (actL act0).toArray 36)).kept k1 (fun i hi e => by have := ho.out.dev.lt i hi; omega)) ho.out.low ho.out.not)
               have q1 := Lib.hid (Kept.out (hb.out.alloc hbs _) k1 (fun i _ e => by omega) (by simp; omega))
               have c0 := act_c0 hA1
               have c1 := act_c1 hA1
               have r1 := Lib.hid (act_r2 hA1)
               have hA1 := Lib.hid hA1
               rw [hkd.out] at c0
               clear k1 z1)
            | (refine wantList_load (by rfl) 33 _ rfl wr.heap.size 2 (by rfl) (secL a.data) _ r1.out Try.underlying33 rfl (infoSecL _) ?_))
          refine (o_Write ho1.out.dev a.at_ hok.out.at_ a.data hpl).mono ?_
          rintro e w2 ⟨rfl, F2, h2, k2, g2⟩
          rw [hres.out]
          have hs1 : w.heap.size ≤ w1.heap.size := q1.out.size
          have hA2 := hA1.out.kept k2 hAF.out
          have c0 := act_c0 hA2
          have c1 := act_c1 hA2
          have r2 := Lib.hid (act_r2 hA2)
          rw [hkd.out] at c0
          have hx2 := Lib.hid (hx1.out.kept k2 ho1.out.not)
          have q2 := Lib.hid (Kept.out q1.out k2 (fun i _ hi => ho1.out.low i hi) hs1)
          have ho2 := Lib.hid (ho1.out.turned hs1 hx1.out.lt h2 g2)
          rw [hm'.out] at ho2
          have hA2 := Lib.hid hA2
          clear k2 g2 h2
          go_upto_region 11 with (fail)
          go_wp2_with (first
            | (refine wantList_load (by rfl) 33 _ rfl wr.heap.size 2 (by rfl) (secL a.data) _ r2.out Try.underlying33 rfl (infoSecL _) ?_)
            | (refine wantList_store (by rfl) 33 _ _ rfl wb.heap.size 0 (by rfl) (secL a.data) (by rfl) _ (secL want) (secL a.data) hx2.out (by simp [secL_length]) (secL_one _) (infoSecL _) (whole_new (by simp [secL_length])) ?_; intro w3 hx3 k3 z3; have c03 : w3.cell? ⟨wr.heap.size, 0, none⟩ = some (.int .i64 1) := ((hA2.out.kept k3 hXne').cell 0).trans (by rw [← hkd.out]; rfl); have hx3 := Lib.hid hx3; have k3 := Lib.hid k3; clear z3))
          go_roundw
          case rel => exact ⟨k + 1, F2, m', a.data, by omega, by go_num, Lib.hid ⟨ho2.out.dev.kept k3.out (fun i hi e => ho2.out.not (e ▸ hi)), ho2.out.low, ho2.out.not⟩, hp', Lib.hid (by rw [hn'.out, hrelH.out, hj.out, Int.toNat_natCast, List.getD_eq_getElem?_getD, List.getElem?_set_self (by rw [DevM.now_length, hpl0.out.len]; have := hj.out; omega)]; rfl), hx3, Lib.hid (Kept.out q2.out k3.out (fun i _ e => by omega) q2.out.size)⟩
          case measure => simp [intOf] <;> omega
        · by_cases hin0 : m.has a.at_ = true
          · have hin : m.has a.at_ = true := hin0
            obtain ⟨m', hm0, hp0, hn0⟩ := hpl0.out.write_in a.at_ a.data hin
            have hres : Hid ((m.write a.at_ a.data).2 = 0) := Lib.hid (by rw [hm0])
            have hm' : Hid ((m.write a.at_ a.data).1 = m') := Lib.hid (by rw [hm0])
            have eAt : (a.at_ == at_) = false := by simpa using hrel2
            have hn' := Lib.hid hn0
            have hp' := Lib.hid hp0
            clear hm0 hn0 hp0
            have hinH := Lib.hid hin
            have hrelH := Lib.hid hrel2
            clear hin hrel2 hin0
            go_wp2_with (first
              | (refine wantList_load (by rfl) 36 _ rfl b (off + k * 131) (by rfl) (actL a) _ hr.out Try.underlying36 rfl (infoActL _) ?_)
              | (refine wantList_store (by rfl) 36 _ _ rfl wr.heap.size 0 (by rfl) (actL a) (by rfl) _ (actL act0) (actL a) (Blk.new _ _ _) (by simp [actL_length]) (actL_one _) (infoActL _) (whole_new (by simp [actL_length])) ?_
                 intro w1 hA1 k1 z1
                 have hx1 := Lib.hid ((hx.out.alloc (.cells (actL act0).toArray 36)).kept k1 hXne)
                 have ho1 := Lib.hid (Obj1.mk ((ho.out.dev.alloc (.cells (actL act0).toArray 36)).kept k1 (fun i hi e => by have := ho.out.dev.lt i hi; omega)) ho.out.low ho.out.not)
                 have q1 := Lib.hid (Kept.out (hb.out.alloc hbs _) k1 (fun i _ e => by omega) (by simp; omega))
                 have c0 := act_c0 hA1
                 have c1 := act_c1 hA1
                 have r1 := Lib.hid (act_r2 hA1)
                 have hA1 := Lib.hid hA1
                 rw [hkd.out] at c0
                 clear k1 z1)
              | (refine wantList_load (by rfl) 33 _ rfl wr.heap.size 2 (by rfl) (secL a.data) _ r1.out Try.underlying33 rfl (infoSecL _) ?_))
            refine (o_Write ho1.out.dev a.at_ hok.out.at_ a.data hpl).mono ?_
            rintro e w2 ⟨rfl, F2, h2, k2, g2⟩
            rw [hres.out]
            have hs1 : w.heap.size ≤ w1.heap.size := q1.out.size
            have hA2 := hA1.out.kept k2 hAF.out
            have c0 := act_c0 hA2
            have c1 := act_c1 hA2
            have r2 := Lib.hid (act_r2 hA2)
            rw [hkd.out] at c0
            have hx2 := Lib.hid (hx1.out.kept k2 ho1.out.not)
            have q2 := Lib.hid (Kept.out q1.out k2 (fun i _ hi => ho1.out.low i hi) hs1)
            have ho2 := Lib.hid (ho1.out.turned hs1 hx1.out.lt h2 g2)
            rw [hm'.out] at ho2
            have hA2 := Lib.hid hA2
            clear k2 g2 h2
            go_wp2
            go_roundw
            case rel => exact ⟨k + 1, F2, m', want, by omega, by go_num, ho2, hp', Lib.hid (by rw [hn'.out, List.getD_eq_getElem?_getD, List.getElem?_set_ne (by intro e; apply hrelH.out; have := has_bounds hinH.out; have := hj.out; omega), ← List.getD_eq_getElem?_getD]; exact hw.out), hx2, q2⟩
            case measure => simp [intOf] <;> omega
          · have hin : m.has a.at_ = false := by simpa using hin0
            obtain ⟨m', hm0, hp0, hn0⟩ := hpl0.out.write_out a.at_ a.data hin
            have hres : Hid ((m.write a.at_ a.data).2 = 41) := Lib.hid (by rw [hm0])
            have hm' : Hid ((m.write a.at_ a.data).1 = m') := Lib.hid (by rw [hm0])
            have hn' := Lib.hid hn0
            have hp' := Lib.hid hp0
            clear hm0 hn0 hp0
            clear hin
            go_wp2_with (first
              | (refine wantList_load (by rfl) 36 _ rfl b (off + k * 131) (by rfl) (actL a) _ hr.out Try.underlying36 rfl (infoActL _) ?_)
              | (refine wantList_store (by rfl) 36 _ _ rfl wr.heap.size 0 (by rfl) (actL a) (by rfl) _ (actL act0) (actL a) (Blk.new _ _ _) (by simp [actL_length]) (actL_one _) (infoActL _) (whole_new (by simp [actL_length])) ?_
                 intro w1 hA1 k1 z1
                 have hx1 := Lib.hid ((hx.out.alloc (.cells (actL act0).toArray 36)).kept k1 hXne)
                 have ho1 := Lib.hid (Obj1.mk ((ho.out.dev.alloc (.cells (actL act0).toArray 36)).kept k1 (fun i hi e => by have := ho.out.dev.lt i hi; omega)) ho.out.low ho.out.not)
                 have q1 := Lib.hid (Kept.out (hb.out.alloc hbs _) k1 (fun i _ e => by omega) (by simp; omega))
                 have c0 := act_c0 hA1
                 have c1 := act_c1 hA1
                 have r1 := Lib.hid (act_r2 hA1)
                 have hA1 := Lib.hid hA1
                 rw [hkd.out] at c0
                 clear k1 z1)
              | (refine wantList_load (by rfl) 33 _ rfl wr.heap.size 2 (by rfl) (secL a.data) _ r1.out Try.underlying33 rfl (infoSecL _) ?_))
            refine (o_Write ho1.out.dev a.at_ hok.out.at_ a.data hpl).mono ?_
            rintro e w2 ⟨rfl, F2, h2, k2, g2⟩
            rw [hres.out]
            have hs1 : w.heap.size ≤ w1.heap.size := q1.out.size
            have hA2 := hA1.out.kept k2 hAF.out
            have c0 := act_c0 hA2
            have c1 := act_c1 hA2
            have r2 := Lib.hid (act_r2 hA2)
            rw [hkd.out] at c0
            have hx2 := Lib.hid (hx1.out.kept k2 ho1.out.not)
            have q2 := Lib.hid (Kept.out q1.out k2 (fun i _ hi => ho1.out.low i hi) hs1)
            have ho2 := Lib.hid (ho1.out.turned hs1 hx1.out.lt h2 g2)
            rw [hm'.out] at ho2
            have hA2 := Lib.hid hA2
            clear k2 g2 h2
            go_wp2
            go_roundw
            case rel => exact ⟨k + 1, F2, m', want, by omega, by go_num, ho2, hp', Lib.hid (by rw [hn'.out]; exact hw.out), hx2, q2⟩
            case measure => simp [intOf] <;> omega
      · by_cases hk5 : a.kind = 5
        · have hkd := Lib.hid hk5
          clear hk1 hk5
          by_cases hrel2 : a.at_ = at_
          · have hin : m.has a.at_ = true := by rw [hrel2, hpl0.out.has]; simp; omega
            obtain ⟨m', hm0, hp0, hn0⟩ := hpl0.out.rot_in a.at_ a.data hin
            have hres : Hid ((m.rot a.at_ a.data).2 = 0) := Lib.hid (by rw [hm0])
            have hm' : Hid ((m.rot a.at_ a.data).1 = m') := Lib.hid (by rw [hm0])
            have eAt : (a.at_ == at_) = true := by rw [hrel2]; simp
            have hn' := Lib.hid hn0
            have hp' := Lib.hid hp0
            clear hm0 hn0 hp0
            have hinH := Lib.hid hin
            have hrelH := Lib.hid hrel2
            clear hin hrel2
            go_wp2_with (first
              | (refine wantList_load (by rfl) 36 _ rfl b (off + k * 131) (by rfl) (actL a) _ hr.out Try.underlying36 rfl (infoActL _) ?_)
              | (refine wantList_store (by rfl) 36 _ _ rfl wr.heap.size 0 (by rfl) (actL a) (by rfl) _ (actL act0) (actL a) (Blk.new _ _ _) (by simp [actL_length]) (actL_one _) (infoActL _) (whole_new (by simp [actL_length])) ?_
                 intro w1 hA1 k1 z1
                 have hx1 := Lib.hid ((hx.out.alloc (.cells (actL act0).toArray 36)).kept k1 hXne)
                 have ho1 := Lib.hid (Obj1.mk ((ho.out.dev.alloc (.cells (actL act0).toArray 36)).kept k1 (fun i hi e => by have := ho.out.dev.lt i hi; omega)) ho.out.low ho.out.not)
                 have q1 := Lib.hid (Kept.out (hb.out.alloc hbs _) k1 (fun i _ e => by omega) (by simp; omega))
                 have c0 := act_c0 hA1
                 have c1 := act_c1 hA1
                 have r1 := Lib.hid (act_r2 hA1)
                 have hA1 := Lib.hid hA1
                 rw [hkd.out] at c0
                 clear k1 z1)
              | (refine wantList_load (by rfl) 33 _ rfl wr.heap.size 2 (by rfl) (secL a.data) _ r1.out Try.underlying33 rfl (infoSecL _) ?_))
            refine (o_Rot ho1.out.dev a.at_ hok.out.at_ a.data hpl).mono ?_
            rintro e w2 ⟨rfl, F2, h2, k2, g2⟩
            rw [hres.out]
            have hs1 : w.heap.size ≤ w1.heap.size := q1.out.size
            have hA2 := hA1.out.kept k2 hAF.out
            have c0 := act_c0 hA2
            have c1 := act_c1 hA2
            have r2 := Lib.hid (act_r2 hA2)
            rw [hkd.out] at c0
            have hx2 := Lib.hid (hx1.out.kept k2 ho1.out.not)
            have q2 := Lib.hid (Kept.out q1.out k2 (fun i _ hi => ho1.out.low i hi) hs1)
            have ho2 := Lib.hid (ho1.out.turned hs1 hx1.out.lt h2 g2)
            rw [hm'.out] at ho2
            have hA2 := Lib.hid hA2
            clear k2 g2 h2
            go_upto_region 11 with (fail)
            go_wp2_with (first
              | (refine wantList_load (by rfl) 33 _ rfl wr.heap.size 2 (by rfl) (secL a.data) _ r2.out Try.underlying33 rfl (infoSecL _) ?_)
              | (refine wantList_store (by rfl) 33 _ _ rfl wb.heap.size 0 (by rfl) (secL a.data) (by rfl) _ (secL want) (secL a.data) hx2.out (by simp [secL_length]) (secL_one _) (infoSecL _) (whole_new (by simp [secL_length])) ?_; intro w3 hx3 k3 z3; have c03 : w3.cell? ⟨wr.heap.size, 0, none⟩ = some (.int .i64 5) := ((hA2.out.kept k3 hXne').cell 0).trans (by rw [← hkd.out]; rfl); have hx3 := Lib.hid hx3; have k3 := Lib.hid k3; clear z3))
            go_roundw
            case rel => exact ⟨k + 1, F2, m', a.data, by omega, by go_num, Lib.hid ⟨ho2.out.dev.kept k3.out (fun i hi e => ho2.out.not (e ▸ hi)), ho2.out.low, ho2.out.not⟩, hp', Lib.hid (by rw [hn'.out, hrelH.out, hj.out, Int.toNat_natCast, List.getD_eq_getElem?_getD, List.getElem?_set_self (by rw [DevM.now_length, hpl0.out.len]; have := hj.out; omega)]; rfl), hx3, Lib.hid (Kept.out q2.out k3.out (fun i _ e => by omega) q2.out.size)⟩
            case measure => simp [intOf] <;> omega
          · by_cases hin0 : m.has a.at_ = true
            · have hin : m.has a.at_ = true := hin0
              obtain ⟨m', hm0, hp0, hn0⟩ := hpl0.out.rot_in a.at_ a.data hin
              have hres : Hid ((m.rot a.at_ a.data).2 = 0) := Lib.hid (by rw [hm0])
              have hm' : Hid ((m.rot a.at_ a.data).1 = m') := Lib.hid (by rw [hm0])
              have eAt : (a.at_ == at_) = false := by simpa using hrel2
              have hn' := Lib.hid hn0
              have hp' := Lib.hid hp0
              clear hm0 hn0 hp0
              have hinH := Lib.hid hin
              have hrelH := Lib.hid hrel2
              clear hin hrel2 hin0
              go_wp2_with (first
                | (refine wantList_load (by rfl) 36 _ rfl b (off + k * 131) (by rfl) (actL a) _ hr.out Try.underlying36 rfl (infoActL _) ?_)
                | (refine wantList_store (by rfl) 36 _ _ rfl wr.heap.size 0 (by rfl) (actL a) (by rfl) _ (actL act0) (actL a) (Blk.new _ _ _) (by simp [actL_length]) (actL_one _) (infoActL _) (whole_new (by simp [actL_length])) ?_
                   intro w1 hA1 k1 z1
                   have hx1 := Lib.hid ((hx.out.alloc (.cells (actL act0).toArray 36)).kept k1 hXne)
                   have ho1 := Lib.hid (Obj1.mk ((ho.out.dev.alloc (.cells (actL act0).toArray 36)).kept k1 (fun i hi e => by have := ho.out.dev.lt i hi; omega)) ho.out.low ho.out.not)
                   have q1 := Lib.hid (Kept.out (hb.out.alloc hbs _) k1 (fun i _ e => by omega) (by simp; omega))
                   have c0 := act_c0 hA1
                   have c1 := act_c1 hA1
                   have r1 := Lib.hid (act_r2 hA1)
                   have hA1 := Lib.hid hA1
                   rw [hkd.out] at c0
                   clear k1 z1)
                | (refine wantList_load (by rfl) 33 _ rfl wr.heap.size 2 (by rfl) (secL a.data) _ r1.out Try.underlying33 rfl (infoSecL _) ?_))
              refine (o_Rot ho1.out.dev a.at_ hok.out.at_ a.data hpl).mono ?_
              rintro e w2 ⟨rfl, F2, h2, k2, g2⟩
              rw [hres.out]
              have hs1 : w.heap.size ≤ w1.heap.size := q1.out.size
              have hA2 := hA1.out.kept k2 hAF.out
              have c0 := act_c0 hA2
              have c1 := act_c1 hA2
              have r2 := Lib.hid (act_r2 hA2)
              rw [hkd.out] at c0
              have hx2 := Lib.hid (hx1.out.kept k2 ho1.out.not)
              have q2 := Lib.hid (Kept.out q1.out k2 (fun i _ hi => ho1.out.low i hi) hs1)
              have ho2 := Lib.hid (ho1.out.turned hs1 hx1.out.lt h2 g2)
              rw [hm'.out] at ho2
              have hA2 := Lib.hid hA2
              clear k2 g2 h2
              go_wp2
              go_roundw
              case rel => exact ⟨k + 1, F2, m', want, by omega, by go_num, ho2, hp', Lib.hid (by rw [hn'.out, List.getD_eq_getElem?_getD, List.getElem?_set_ne (by intro e; apply hrelH.out; have := has_bounds hinH.out; have := hj.out; omega), ← List.getD_eq_getElem?_getD]; exact hw.out), hx2, q2⟩
              case measure => simp [intOf] <;> omega
            · have hin : m.has a.at_ = false := by simpa using hin0
              obtain ⟨m', hm0, hp0, hn0⟩ := hpl0.out.rot_out a.at_ a.data hin
              have hres : Hid ((m.rot a.at_ a.data).2 = 41) := Lib.hid (by rw [hm0])
              have hm' : Hid ((m.rot a.at_ a.data).1 = m') := Lib.hid (by rw [hm0])
              have hn' := Lib.hid hn0
              have hp' := Lib.hid hp0
              clear hm0 hn0 hp0
              clear hin
              go_wp2_with (first
                | (refine wantList_load (by rfl) 36 _ rfl b (off + k * 131) (by rfl) (actL a) _ hr.out Try.underlying36 rfl (infoActL _) ?_)
                | (refine wantList_store (by rfl) 36 _ _ rfl wr.heap.size 0 (by rfl) (actL a) (by rfl) _ (actL act0) (actL a) (Blk.new _ _ _) (by simp [actL_length]) (actL_one _) (infoActL _) (whole_new (by simp [actL_length])) ?_
                   intro w1 hA1 k1 z1
                   have hx1 := Lib.hid ((hx.out.alloc (.cells (actL act0).toArray 36)).kept k1 hXne)
                   have ho1 := Lib.hid (Obj1.mk ((ho.out.dev.alloc (.cells (actL act0).toArray 36)).kept k1 (fun i hi e => by have := ho.out.dev.lt i hi; omega)) ho.out.low ho.out.not)
                   have q1 := Lib.hid (Kept.out (hb.out.alloc hbs _) k1 (fun i _ e => by omega) (by simp; omega))
                   have c0 := act_c0 hA1
                   have c1 := act_c1 hA1
                   have r1 := Lib.hid (act_r2 hA1)
                   have hA1 := Lib.hid hA1
                   rw [hkd.out] at c0
                   clear k1 z1)
                | (refine wantList_load (by rfl) 33 _ rfl wr.heap.size 2 (by rfl) (secL a.data) _ r1.out Try.underlying33 rfl (infoSecL _) ?_))
              refine (o_Rot ho1.out.dev a.at_ hok.out.at_ a.data hpl).mono ?_
              rintro e w2 ⟨rfl, F2, h2, k2, g2⟩
              rw [hres.out]
              have hs1 : w.heap.size ≤ w1.heap.size := q1.out.size
              have hA2 := hA1.out.kept k2 hAF.out
              have c0 := act_c0 hA2
              have c1 := act_c1 hA2
              have r2 := Lib.hid (act_r2 hA2)
              rw [hkd.out] at c0
              have hx2 := Lib.hid (hx1.out.kept k2 ho1.out.not)
              have q2 := Lib.hid (Kept.out q1.out k2 (fun i _ hi => ho1.out.low i hi) hs1)
              have ho2 := Lib.hid (ho1.out.turned hs1 hx1.out.lt h2 g2)
              rw [hm'.out] at ho2
              have hA2 := Lib.hid hA2
              clear k2 g2 h2
              go_wp2
              go_roundw
              case rel => exact ⟨k + 1, F2, m', want, by omega, by go_num, ho2, hp', Lib.hid (by rw [hn'.out]; exact hw.out), hx2, q2⟩
              case measure => simp [intOf] <;> omega
        · by_cases hk2 : a.kind = 2
          · have hkd := Lib.hid hk2
            clear hk1 hk5 hk2
            obtain ⟨m', hm0, hp0, hn0⟩ := hpl0.out.flush_
            have hres : Hid (m.flush.2 = 0) := Lib.hid (by rw [hm0])
            have hm' : Hid (m.flush.1 = m') := Lib.hid (by rw [hm0])
            have hn' := Lib.hid hn0
            have hp' := Lib.hid hp0
            clear hm0 hn0 hp0
            go_wp2_with (first
              | (refine wantList_load (by rfl) 36 _ rfl b (off + k * 131) (by rfl) (actL a) _ hr.out Try.underlying36 rfl (infoActL _) ?_)
              | (refine wantList_store (by rfl) 36 _ _ rfl wr.heap.size 0 (by rfl) (actL a) (by rfl) _ (actL act0) (actL a) (Blk.new _ _ _) (by simp [actL_length]) (actL_one _) (infoActL _) (whole_new (by simp [actL_length])) ?_
                 intro w1 hA1 k1 z1
                 have hx1 := Lib.hid ((hx.out.alloc (.cells (actL act0).toArray 36)).kept k1 hXne)
                 have ho1 := Lib.hid (Obj1.mk ((ho.out.dev.alloc (.cells (actL act0).toArray 36)).kept k1 (fun i hi e => by have := ho.out.dev.lt i hi; omega)) ho.out.low ho.out.not)
                 have q1 := Lib.hid (Kept.out (hb.out.alloc hbs _) k1 (fun i _ e => by omega) (by simp; omega))
                 have c0 := act_c0 hA1
                 have c1 := act_c1 hA1
                 have r1 := Lib.hid (act_r2 hA1)
                 have hA1 := Lib.hid hA1
                 rw [hkd.out] at c0
                 clear k1 z1)
              | (refine wantList_load (by rfl) 33 _ rfl wr.heap.size 2 (by rfl) (secL a.data) _ r1.out Try.underlying33 rfl (infoSecL _) ?_))
            refine (o_Flush ho1.out.dev hpl).mono ?_
            rintro e w2 ⟨rfl, F2, h2, k2, g2⟩
            rw [hres.out]
            have hs1 : w.heap.size ≤ w1.heap.size := q1.out.size
            have hA2 := hA1.out.kept k2 hAF.out
            have c0 := act_c0 hA2
            have c1 := act_c1 hA2
            have r2 := Lib.hid (act_r2 hA2)
            rw [hkd.out] at c0
            have hx2 := Lib.hid (hx1.out.kept k2 ho1.out.not)
            have q2 := Lib.hid (Kept.out q1.out k2 (fun i _ hi => ho1.out.low i hi) hs1)
            have ho2 := Lib.hid (ho1.out.turned hs1 hx1.out.lt h2 g2)
            rw [hm'.out] at ho2
            have hA2 := Lib.hid hA2
            clear k2 g2 h2
            go_wp2
            go_roundw
            case rel => exact ⟨k + 1, F2, m', want, by omega, by go_num, ho2, hp', Lib.hid (by rw [hn'.out]; exact hw.out), hx2, q2⟩
            case measure => simp [intOf] <;> omega
          · have e1 : (a.kind == 1) = false := by simpa using hk1
            have e5 : (a.kind == 5) = false := by simpa using hk5
            have e2 : (a.kind == 2) = false := by simpa using hk2
            skip
            go_wp2_with (first
              | (refine wantList_load (by rfl) 36 _ rfl b (off + k * 131) (by rfl) (actL a) _ hr.out Try.underlying36 rfl (infoActL _) ?_)
              | (refine wantList_store (by rfl) 36 _ _ rfl wr.heap.size 0 (by rfl) (actL a) (by rfl) _ (actL act0) (actL a) (Blk.new _ _ _) (by simp [actL_length]) (actL_one _) (infoActL _) (whole_new (by simp [actL_length])) ?_
                 intro w1 hA1 k1 z1
                 have hx1 := Lib.hid ((hx.out.alloc (.cells (actL act0).toArray 36)).kept k1 hXne)
                 have ho1 := Lib.hid (Obj1.mk ((ho.out.dev.alloc (.cells (actL act0).toArray 36)).kept k1 (fun i hi e => by have := ho.out.dev.lt i hi; omega)) ho.out.low ho.out.not)
                 have q1 := Lib.hid (Kept.out (hb.out.alloc hbs _) k1 (fun i _ e => by omega) (by simp; omega))
                 have c0 := act_c0 hA1
                 have c1 := act_c1 hA1
                 have r1 := Lib.hid (act_r2 hA1)
                 have hA1 := Lib.hid hA1
                 clear k1 z1)
              | (refine wantList_load (by rfl) 33 _ rfl wr.heap.size 2 (by rfl) (secL a.data) _ r1.out Try.underlying33 rfl (infoSecL _) ?_))
            go_roundw
            case rel => exact ⟨k + 1, F, m, want, by omega, by go_num, ho1, Lib.hid hpl0.out.succ, hw, hx1, q1⟩
            case measure => simp [intOf] <;> omega
    · obtain rfl : k = n := by omega
      go_wp2_with fail
      refine (o_Read ho.out.dev at_ (by unfold I64; omega)).mono ?_
      rintro e w2 ⟨rfl, F2, h2, k2, g2⟩
      have hrd : m.read at_ = (want, 0) := by
        unfold DevM.read
        rw [hpl0.out.has, hpl0.out.dead, if_pos (by simp; omega)]
        rw [← hw.out]
        have : at_.toNat = j := by have := hj.out; omega
        rw [this]
        simp
      rw [hrd]
      have hx2 := hx.out.kept k2 ho.out.not
      have q2 := Lib.hid (Kept.out hb.out k2 (fun i _ hi => ho.out.low i hi) hbs)
      have hX2 : wb.heap.size < w2.heap.size := hx2.lt
      have hx2 := Lib.hid hx2
      clear k2 g2 h2 hrd
      go_wp2_with (first
        | (refine wantList_store (by rfl) 33 _ _ rfl w2.heap.size 0 (by rfl) (secL want) (by rfl) _ (secL sec0) (secL want) (Blk.new _ _ _) (by simp [secL_length]) (secL_one _) (infoSecL _) (whole_new (by simp [secL_length])) ?_
           intro w3 hs3 k3 z3
           have hx3 := Lib.hid ((hx2.out.alloc (.cells (secL sec0).toArray 33)).kept k3 (by omega))
           have q3 := Lib.hid (Kept.out (q2.out.alloc q2.out.size _) k3 (fun i _ e => by have := q2.out.size; omega) (by have := q2.out.size; simp; omega))
           have hs3 := Lib.hid hs3
           clear k3 z3)
        | (refine wantList_load (by rfl) 33 _ rfl w2.heap.size 0 (by rfl) (secL want) _ (hs3.out.range fun j v hv => by simpa using hv) Try.underlying33 rfl (infoSecL _) ?_)
        | (refine wantList_load (by rfl) 33 _ rfl wb.heap.size 0 (by rfl) (secL want) _ (hx3.out.range fun j v hv => by simpa using hv) Try.underlying33 rfl (infoSecL _) ?_))
      go_ret
      exact ⟨by simp, q3.out⟩

set_option maxHeartbeats 2000000 in
theorem way_no (ao : Option Addr) (n cap : Nat) (at_ : Int) (w : World) (h : 200 < n ∨ (n ≤ 200 ∧ at_ < 0) ∨ (n ≤ 200 ∧ 0 ≤ at_ ∧ 7 < at_)) :
    Calls Try.prog 6 #[.slice ao n cap, .int .i64 at_] w fun e w' => e = .returned (.bool true) ∧ Below w.heap.size w w' := by
  rcases h with h | ⟨h, h1⟩ | ⟨h, h1, h2⟩
  all_goals
    go_enter Try.func6, Try.ntmps6
    go_wp2_with fail
    refine (alive_any w).mono ?_
    rintro e wa ⟨rfl, ba⟩
    have ba := Lib.hid ba
    go_wp2_with fail
    refine (New_any 8 (by unfold I64; omega) wa).mono ?_
    rintro e wb ⟨d, F0, rfl, hd0, lo0, bb⟩
    have q0 := Lib.hid (ba.out.trans (bb.mono ba.out.size))
    clear bb lo0 hd0
    go_wp2
    go_ret
    exact ⟨rfl, q0.out⟩

theorem walk (ao : Option Addr) (as_ : List ActM) (cap : Nat) (at_ : Int) (w : World) (hacts : Acts w ao as_) (hl : as_.length ≤ 140737488351232) (hnil : ao = none → cap = 0) (hi : I64 at_) :
    Calls Try.prog 6 #[.slice ao as_.length cap, .int .i64 at_] w fun e w' => e = .returned (.bool true) ∧ Below w.heap.size w w' := by
  by_cases h1 : as_.length ≤ 200
  · by_cases h2 : 0 ≤ at_
    · by_cases h3 : at_ ≤ 7
      · exact way_yes ao as_ cap _ at_ w hacts (Lib.hid rfl) h1 h2 h3
      · exact way_no ao _ cap at_ w (.inr (.inr ⟨h1, h2, by omega⟩))
    · exact way_no ao _ cap at_ w (.inr (.inl ⟨h1, by omega⟩))
  · exact way_no ao _ cap at_ w (.inl (by omega))

theorem own : ownKnob Try.prog.godebug = none := by kernel_rfl
theorem laidOut : laidOutB Try.prog = true := by kernel_rfl

set_option maxRecDepth 100000 in
theorem lifted (os : Os) (started : os.Started) (H : Type) (enc : TypeId × Value → H) :
    ReturnsInHanded {} Try.checked os 6 .any (Rows.vdevReadsSpec.pre6 enc Try.prog Try.f6 Rows.vdevReadsRow.domain false) (Rows.vdevReadsSpec.post enc Try.prog Try.f6 false true false false) := by
  refine returnsInHanded_of_change_sized (C := Try.checked) own started (by kernel_rfl) Try.func6
    (ChangeSpec.witness6 (enc := enc) (C := Try.checked) false ⟨#[], #[.slice none 0 0, .int .i64 0], []⟩ 8 (by kernel_rfl) (by kernel_rfl) (by kernel_rfl) (by kernel_rfl)) ?_
  intro W base args ds gs before hval0 hW hcnd hsz0 _
  have hval : ∀ (j : Nat) t v, Try.f6.params[j]? = some t → args[j]? = some v → Value.okWide Try.prog W .any base t v := hval0
  have hsz : (DataW.weightsEach Try.prog (Try.f6.params.toList ++ Rows.vdevReadsSpec.plain.varTypes Try.prog) (ds ++ gs)).all (· ≤ reachBytes) = true := hsz0
  have hW' := hW
  obtain ⟨p, q, hA0, hV, rfl, hfz, hnd⟩ := hW
  have hA : DataW.TrodAll enc Try.prog W 0 (fun _ => true) true Try.f6.params.toList args.toList ds p := hA0
  rw [Try.params6] at hA hval hsz
  obtain ⟨v0, vs0, d0, ds0, p0, q0, hargs, rfl, rfl, h0, r0⟩ := trodAll_cons hA
  obtain ⟨v1, vs1, d1, ds1, p1, q1, rfl, rfl, rfl, h1, r1⟩ := trodAll_cons r0
  obtain ⟨rfl, rfl, rfl⟩ := trodAll_nil r1
  obtain rfl : args = #[v0, v1] := by cases args; simp_all
  obtain ⟨rfl, rfl⟩ := trodVars_none hV
  have k0 := h0
  have lt0 : ∀ x ∈ p0, x.block < W.heap.size := by obtain ⟨m, hm⟩ := k0; exact DataW.trod_lt m _ _ _ hm
  obtain ⟨ao0, a0, cap0, rfl, sp0, fi0, nl0⟩ := arg_acts h0 (hval 0 26 v0 rfl rfl) (light_arg hsz (j := 0) (t := 26) rfl rfl)
  obtain ⟨a1, rfl, rfl, rfl, wf1⟩ := open_int Try.underlying3 (hval 1 3 v1 rfl rfl) h1
  clear hA0 hval0 hsz0
  refine (walk ao0 a0 cap0 a1 W sp0 fi0 nl0 (wf_i64 wf1)).mono fun e W' ⟨he, bel⟩ => ?_
  subst he
  exact ⟨_, rfl, _, _, _, [], _, [], hW', trodAll_mk1 (shut_bool Try.underlying4 _), (trodAll_cons_mk (Below.trod laidOut (by kernel_rfl) (of_decide_eq_true (by kernel_rfl)) k0 bel lt0) (trodAll_cons_mk (shut_int Try.underlying3 wf1) trodAll_mk0)), rfl, bel.frame _, fun h => by cases h⟩

theorem proved : Rows.VdevReadsSaid :=
  OpenClaim.holds_of_wide 6 Try.f6 rfl rfl rfl rfl rfl rfl rfl ⟨rfl, rfl, rfl, rfl, rfl⟩ rfl rfl rfl rfl rfl (by kernel_rfl) Try.func6 (by kernel_rfl)
    (of_decide_eq_true (by kernel_rfl)) (by unfold Func.isWrapper; first | (rw [if_pos (by decide +kernel)]; kernel_rfl) | (rw [if_neg (by decide +kernel)]; exact ⟨rfl, rfl⟩))
    (fun os started H enc _ => lifted os started H enc)
end Go.Proofs.Ytfpacnokecfhmaa.lawVdevReads
