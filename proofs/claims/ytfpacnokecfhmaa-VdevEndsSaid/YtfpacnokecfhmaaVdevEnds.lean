/- VdevEnds, for every input: the law returns true and each argument reads behind the call as before. No condition. -/
import Derived.Test.YtfpacnokecfhmaaActW
namespace Go.Proofs.Ytfpacnokecfhmaa.lawVdevEnds
open Go.ChangeShapes Go.WideShapes Go.ChangeAt Go.RowKit Go.Deep
set_option linter.unusedVariables false

/-- how it goes on behind a Break of n -/
structure Ends (n : Int) (m : DevM) (done : Int) (k : Nat) : Prop where
  len : m.stable.length = 8
  pend : m.pending.length ≤ k
  done0 : 0 ≤ done
  left : m.left = n - done
  le : done ≤ n
  dead : m.dead = true → done = n
structure Dev0 (B : Nat) (w : World) (d : Nat) (F : Nat → Prop) (m : DevM) : Prop where
  dev : IsDev w d F m
  low : ∀ k, F k → B ≤ k
namespace Ends
variable {n done : Int} {m : DevM} {k : Nat} (h : Ends n m done k)
theorem tick (h : Ends n m done k) : Ends n m.tick done k := ⟨h.len, h.pend, h.done0, h.left, h.le, h.dead⟩
theorem has (h : Ends n m done k) (i : Int) (hi : 0 ≤ i ∧ i ≤ 7) : m.has i = true := by unfold DevM.has; rw [h.len]; simp; omega
theorem off (h : Ends n m done k) (hl : m.lasts = false) : done = n := by
  unfold DevM.lasts at hl
  cases hd : m.dead
  · rw [hd] at hl
    simp at hl
    have := h.left; omega
  · exact h.dead hd
theorem on (h : Ends n m done k) (hl : m.lasts = true) : m.dead = false ∧ 0 < m.left := by
  unfold DevM.lasts at hl
  simp at hl
  have := h.left; have := h.le
  exact ⟨hl.1, by omega⟩
theorem write_ok (h : Ends n m done k) (i : Int) (hi : 0 ≤ i ∧ i ≤ 7) (s : Sec) (hl : m.lasts = true) : ∃ m', m.write i s = (m', 0) ∧ Ends n m' (done + 1) (k + 1) ∧ m'.dead = false ∧ done < n := by
  obtain ⟨h1, h2⟩ := h.on hl
  have hl' : m.tick.lasts = true := hl
  have h2' : 0 < m.tick.left := h2
  refine ⟨{ m.tick.spend with pending := m.pending ++ [(i.toNat, s)] }, ?_, ⟨?_, ?_, by have := h.done0; omega, ?_, by have := h.left; omega, ?_⟩, ?_, by have := h.left; omega⟩
  · unfold DevM.write
    rw [h.has i hi, hl]
    rfl
  · show m.tick.spend.stable.length = 8
    rw [DevM.spend_stable]; exact h.len
  · have := h.pend
    simp; omega
  · show m.tick.spend.left = _
    unfold DevM.spend
    rw [hl', if_pos rfl, if_pos h2']
    show m.left - 1 = _
    have := h.left; omega
  · intro hd
    have : m.tick.spend.dead = false := by unfold DevM.spend; rw [hl', if_pos rfl]; exact h1
    have hd' : m.tick.spend.dead = true := hd
    rw [this] at hd'; cases hd'
  · show m.tick.spend.dead = false
    unfold DevM.spend; rw [hl', if_pos rfl]; exact h1
theorem write_no (h : Ends n m done k) (i : Int) (hi : 0 ≤ i ∧ i ≤ 7) (s : Sec) (hl : m.lasts = false) : ∃ m', m.write i s = (m', 42) ∧ Ends n m' done (k + 1) ∧ m'.dead = true ∧ done = n := by
  have ho := h.off hl
  have hl' : m.tick.lasts = false := hl
  have e : m.tick.spend = { m.tick with dead := true } := by unfold DevM.spend; rw [hl', if_neg (by decide)]
  refine ⟨m.tick.spend, ?_, ?_, by rw [e], ho⟩
  · unfold DevM.write
    rw [h.has i hi, hl]
    rfl
  · rw [e]
    exact ⟨h.len, by have := h.pend; show m.pending.length ≤ _; omega, h.done0, h.left, h.le, fun _ => ho⟩
theorem flush_ok (h : Ends n m done k) (hl : m.lasts = true) : ∃ m', m.flush = (m', 0) ∧ Ends n m' (done + 1) (k + 1) ∧ m'.dead = false ∧ done < n := by
  obtain ⟨h1, h2⟩ := h.on hl
  have hl' : m.tick.lasts = true := hl
  have h2' : 0 < m.tick.left := h2
  have hd : m.tick.spend.dead = false := by unfold DevM.spend; rw [hl', if_pos rfl]; exact h1
  refine ⟨m.tick.spend.settle (fun _ => true), ?_, ⟨?_, Nat.zero_le _, by have := h.done0; omega, ?_, by have := h.left; omega, ?_⟩, hd, by have := h.left; omega⟩
  · unfold DevM.flush
    rw [hl]
    rfl
  · refine (putAll_length _ _).trans ?_
    rw [DevM.spend_stable]; exact h.len
  · show m.tick.spend.left = _
    unfold DevM.spend
    rw [hl', if_pos rfl, if_pos h2']
    show m.left - 1 = _
    have := h.left; omega
  · intro hd'
    have hd'' : m.tick.spend.dead = true := hd'
    rw [hd] at hd''; cases hd''
theorem flush_no (h : Ends n m done k) (hl : m.lasts = false) : ∃ m', m.flush = (m', 42) ∧ Ends n m' done (k + 1) ∧ m'.dead = true ∧ done = n := by
  have ho := h.off hl
  have hl' : m.tick.lasts = false := hl
  have e : m.tick.spend = { m.tick with dead := true } := by unfold DevM.spend; rw [hl', if_neg (by decide)]
  refine ⟨m.tick.spend, ?_, ?_, by rw [e], ho⟩
  · unfold DevM.flush
    rw [hl]
    rfl
  · rw [e]
    exact ⟨h.len, by have := h.pend; show m.pending.length ≤ _; omega, h.done0, h.left, h.le, fun _ => ho⟩
theorem read_ok (h : Ends n m done k) (hd : m.dead = false) : ∃ s, m.read 0 = (s, 0) := by
  refine ⟨m.now.getD (0 : Int).toNat sec0, ?_⟩
  unfold DevM.read
  rw [h.has 0 (by omega), hd]
  rfl
theorem read_no (h : Ends n m done k) (hd : m.dead = true) : ∃ s, m.read 0 = (s, 42) := by
  refine ⟨sec0, ?_⟩
  unfold DevM.read
  rw [h.has 0 (by omega), hd]
  rfl
end Ends

set_option maxRecDepth 100000 in
set_option maxHeartbeats 4000000 in
theorem way_yes (nn : Int) (ao : Option Addr) (as_ : List ActM) (cap n : Nat) (w : World) (hacts : Acts w ao as_) (hn : Hid (as_.length = n)) (hn2 : n ≤ 200) (h0 : 0 ≤ nn) (h7 : nn ≤ 9223372036854775807) :
    Calls Try.prog 7 #[.int .i64 nn, .slice ao n cap] w fun e w' => e = .returned (.bool true) ∧ Below w.heap.size w w' := by
  have hacts := Lib.hid hacts
  have hz := zeroSec
  have hza := zeroAct
  go_enter Try.func7, Try.ntmps7
  go_wp2_with fail
  refine (alive_any w).mono ?_
  rintro e wa ⟨rfl, ba⟩
  have ba := Lib.hid ba
  go_wp2_with fail
  refine (New_any 8 (by unfold I64; omega) wa).mono ?_
  rintro e wb ⟨d, F0, rfl, hd0, lo0, bb⟩
  rw [show DevM.newLen 8 = 8 from rfl] at hd0
  have q0 := Lib.hid (ba.out.trans (bb.mono ba.out.size))
  have lo0 := Lib.hid (fun k hk => Nat.le_trans ba.out.size (lo0 k hk))
  have hd0 := Lib.hid hd0
  clear bb
  go_wp2_with fail
  refine (o_Break hd0.out nn (by unfold I64; omega)).mono ?_
  rintro e wc ⟨rfl, F1, hd1, k1, g1⟩
  have qc := Lib.hid (Kept.out q0.out k1 (fun i _ hi => lo0.out i hi) q0.out.size)
  have lo1 := Lib.hid (g1.low lo0.out q0.out.size)
  have hd1 := Lib.hid hd1
  clear k1 g1
  go_wp2
  go_loopw [6, 33] (fun dn i wr => ∃ (k : Nat) (F : Nat → Prop) (m : DevM) (done : Int), k ≤ n ∧ i = .int .i64 k ∧ dn = .int .i64 done ∧ Hid (Dev0 w.heap.size wr d F m) ∧ Hid (Ends nn m done k) ∧ Hid (Below w.heap.size w wr))
    (fun _ i _ => n - (intOf i).toNat)
  case atStart => exact ⟨0, F1, (DevM.fresh 8).brk nn, 0, by omega, rfl, rfl, Lib.hid ⟨hd1.out, lo1.out⟩, Lib.hid ⟨rfl, Nat.le_refl _, by omega, by show nn = _; omega, h0, fun h => by cases h⟩, qc⟩
  case round =>
    obtain ⟨k, F, m, done, hk, rfl, rfl, ho, hE, hb⟩ := hrel
    have hpl : m.pending.length ≤ 1000000000 := by have := hE.out.pend; omega
    have hbs : w.heap.size ≤ wr.heap.size := hb.out.size
    have hd0 := hE.out.done0
    have hdle := hE.out.le
    by_cases hlt : k < n
    · obtain ⟨b, off, rfl, hbb, hr⟩ := (hacts.out.below hb.out).range (k := k) (by rw [hn.out]; exact hlt)
      have hok : ActOk w (as_[k]'(by rw [hn.out]; exact hlt)) := hacts.out.each _ (List.getElem_mem _)
      obtain ⟨a, ha⟩ : ∃ a : ActM, Hid (a = as_[k]'(by rw [hn.out]; exact hlt)) := ⟨_, Lib.hid rfl⟩
      rw [← ha.out] at hr hok
      have hr := Lib.hid hr
      have hat := hok.at_
      unfold I64 at hat
      have hok := Lib.hid hok
      have i0 : (0 : Int) ≤ (k : Int) := by omega
      have i1 : (k : Int) < (n : Int) := by omega
      by_cases hk1 : a.kind = 1
      · have hkd := Lib.hid hk1
        clear hk1
        by_cases hlo : a.at_ ≤ 0
        · cases hla : m.lasts
          · obtain ⟨m', hm0, hE', hdd, hdn⟩ := hE.out.write_no (0) (by omega) a.data hla
            have hres : Hid ((m.write (0) a.data).2 = 42) := Lib.hid (by rw [hm0])
            have hm' : Hid ((m.write (0) a.data).1 = m') := Lib.hid (by rw [hm0])
            obtain ⟨s', hrd⟩ := hE'.read_no hdd
            have hrd := Lib.hid hrd
            have hddH := Lib.hid hdd
            have hpl' : m'.pending.length ≤ 1000000000 := by have := hE'.pend; omega
            have hE' := Lib.hid hE'
            subst hdn
            clear hm0 hla hdd
            go_wp2_with (first
              | (refine wantList_load (by rfl) 36 _ rfl b (off + k * 131) (by rfl) (actL a) _ hr.out Try.underlying36 rfl (infoActL _) ?_)
              | (refine wantList_store (by rfl) 36 _ _ rfl wr.heap.size 0 (by rfl) (actL a) (by rfl) _ (actL act0) (actL a) (Blk.new _ _ _) (by simp [actL_length]) (actL_one _) (infoActL _) (whole_new (by simp [actL_length])) ?_
                 intro w1 hA1 k1 z1
                 have ho1 := Lib.hid (Dev0.mk (B := w.heap.size) ((ho.out.dev.alloc (.cells (actL act0).toArray 36)).kept k1 (fun i hi e => by have := ho.out.dev.lt i hi; omega)) ho.out.low)
                 have q1 := Lib.hid (Kept.out (hb.out.alloc hbs _) k1 (fun i _ e => by omega) (by simp; omega))
                 have c0 := act_c0 hA1
                 have c1 := act_c1 hA1
                 have r1 := Lib.hid (act_r2 hA1)
                 have hA1 := Lib.hid hA1
                 rw [hkd.out] at c0
                 clear k1 z1)
              | (refine wantList_load (by rfl) 33 _ rfl wr.heap.size 2 (by rfl) (secL a.data) _ r1.out Try.underlying33 rfl (infoSecL _) ?_))
            refine (o_Write ho1.out.dev (0) (by unfold I64; omega) a.data hpl).mono ?_
            rintro e w2 ⟨rfl, F2, h2, k2, g2⟩
            rw [hres.out]
            rw [hm'.out] at h2
            have hs1 : w.heap.size ≤ w1.heap.size := q1.out.size
            have q2 := Lib.hid (Kept.out q1.out k2 (fun i _ hi => ho1.out.low i hi) hs1)
            have lo2 := Lib.hid (g2.low ho1.out.low hs1)
            have h2 := Lib.hid h2
            clear k2 g2
            go_wp2_with fail
            refine (o_Read h2.out 0 (by unfold I64; omega)).mono ?_
            rintro e w3 ⟨rfl, F3, h3, k3, g3⟩
            rw [hrd.out]
            have q3 := Lib.hid (Kept.out q2.out k3 (fun i _ hi => lo2.out i hi) q2.out.size)
            have lo3 := Lib.hid (g3.low lo2.out q2.out.size)
            have hs3 : w.heap.size ≤ w3.heap.size := q3.out.size
            have h3 := Lib.hid h3
            clear k3 g3
            go_wp2_with (refine wantList_store (by rfl) 33 _ _ rfl w3.heap.size 0 (by rfl) (secL s') (by rfl) _ (secL sec0) (secL s') (Blk.new _ _ _) (by simp [secL_length]) (secL_one _) (infoSecL _) (whole_new (by simp [secL_length])) ?_
                         intro w4 hs4 k4 z4
                         have h4 := Lib.hid ((h3.out.alloc (.cells (secL sec0).toArray 33)).kept k4 (fun i hi e => by have := h3.out.lt i hi; omega))
                         have q4 := Lib.hid (Kept.out (q3.out.alloc q3.out.size _) k4 (fun i _ e => by omega) (by simp; omega))
                         clear k4 z4 hs4)
            refine (o_Dead h4.out).mono ?_
            rintro e w5 ⟨rfl, rfl⟩
            rw [show m'.tick.dead = m'.dead from rfl, hddH.out]
            go_wp2_with fail
            refine (o_Dead h4.out).mono ?_
            rintro e w5 ⟨rfl, rfl⟩
            rw [show m'.tick.dead = m'.dead from rfl, hddH.out]
            go_wp2_with fail
            refine (o_Dead h4.out).mono ?_
            rintro e w5 ⟨rfl, rfl⟩
            rw [show m'.tick.dead = m'.dead from rfl, hddH.out]
            go_wp2_with fail
            go_roundw
            case rel => exact ⟨k + 1, F3, m'.tick, done, by omega, by go_num, rfl, Lib.hid ⟨h4.out, lo3.out⟩, Lib.hid hE'.out.tick, q4⟩
            case measure => simp [intOf] <;> omega
          · obtain ⟨m', hm0, hE', hdd, hdn⟩ := hE.out.write_ok (0) (by omega) a.data hla
            have hres : Hid ((m.write (0) a.data).2 = 0) := Lib.hid (by rw [hm0])
            have hm' : Hid ((m.write (0) a.data).1 = m') := Lib.hid (by rw [hm0])
            obtain ⟨s', hrd⟩ := hE'.read_ok hdd
            have hrd := Lib.hid hrd
            have hddH := Lib.hid hdd
            have hpl' : m'.pending.length ≤ 1000000000 := by have := hE'.pend; omega
            have hE' := Lib.hid hE'
            clear hm0 hla hdd
            go_wp2_with (first
              | (refine wantList_load (by rfl) 36 _ rfl b (off + k * 131) (by rfl) (actL a) _ hr.out Try.underlying36 rfl (infoActL _) ?_)
              | (refine wantList_store (by rfl) 36 _ _ rfl wr.heap.size 0 (by rfl) (actL a) (by rfl) _ (actL act0) (actL a) (Blk.new _ _ _) (by simp [actL_length]) (actL_one _) (infoActL _) (whole_new (by simp [actL_length])) ?_
                 intro w1 hA1 k1 z1
                 have ho1 := Lib.hid (Dev0.mk (B := w.heap.size) ((ho.out.dev.alloc (.cells (actL act0).toArray 36)).kept k1 (fun i hi e => by have := ho.out.dev.lt i hi; omega)) ho.out.low)
                 have q1 := Lib.hid (Kept.out (hb.out.alloc hbs _) k1 (fun i _ e => by omega) (by simp; omega))
                 have c0 := act_c0 hA1
                 have c1 := act_c1 hA1
                 have r1 := Lib.hid (act_r2 hA1)
                 have hA1 := Lib.hid hA1
                 rw [hkd.out] at c0
                 clear k1 z1)
              | (refine wantList_load (by rfl) 33 _ rfl wr.heap.size 2 (by rfl) (secL a.data) _ r1.out Try.underlying33 rfl (infoSecL _) ?_))
            refine (o_Write ho1.out.dev (0) (by unfold I64; omega) a.data hpl).mono ?_
            rintro e w2 ⟨rfl, F2, h2, k2, g2⟩
            rw [hres.out]
            rw [hm'.out] at h2
            have hs1 : w.heap.size ≤ w1.heap.size := q1.out.size
            have q2 := Lib.hid (Kept.out q1.out k2 (fun i _ hi => ho1.out.low i hi) hs1)
            have lo2 := Lib.hid (g2.low ho1.out.low hs1)
            have h2 := Lib.hid h2
            clear k2 g2
            go_wp2_with fail
            refine (o_Read h2.out 0 (by unfold I64; omega)).mono ?_
            rintro e w3 ⟨rfl, F3, h3, k3, g3⟩
            rw [hrd.out]
            have q3 := Lib.hid (Kept.out q2.out k3 (fun i _ hi => lo2.out i hi) q2.out.size)
            have lo3 := Lib.hid (g3.low lo2.out q2.out.size)
            have hs3 : w.heap.size ≤ w3.heap.size := q3.out.size
            have h3 := Lib.hid h3
            clear k3 g3
            go_wp2_with (refine wantList_store (by rfl) 33 _ _ rfl w3.heap.size 0 (by rfl) (secL s') (by rfl) _ (secL sec0) (secL s') (Blk.new _ _ _) (by simp [secL_length]) (secL_one _) (infoSecL _) (whole_new (by simp [secL_length])) ?_
                         intro w4 hs4 k4 z4
                         have h4 := Lib.hid ((h3.out.alloc (.cells (secL sec0).toArray 33)).kept k4 (fun i hi e => by have := h3.out.lt i hi; omega))
                         have q4 := Lib.hid (Kept.out (q3.out.alloc q3.out.size _) k4 (fun i _ e => by omega) (by simp; omega))
                         clear k4 z4 hs4)
            refine (o_Dead h4.out).mono ?_
            rintro e w5 ⟨rfl, rfl⟩
            rw [show m'.tick.dead = m'.dead from rfl, hddH.out]
            go_wp2_with fail
            refine (o_Dead h4.out).mono ?_
            rintro e w5 ⟨rfl, rfl⟩
            rw [show m'.tick.dead = m'.dead from rfl, hddH.out]
            go_wp2_with fail
            refine (o_Dead h4.out).mono ?_
            rintro e w5 ⟨rfl, rfl⟩
            rw [show m'.tick.dead = m'.dead from rfl, hddH.out]
            go_wp2_with fail
            go_roundw
            case rel => exact ⟨k + 1, F3, m'.tick, done + 1, by omega, by go_num, rfl, Lib.hid ⟨h4.out, lo3.out⟩, Lib.hid hE'.out.tick, q4⟩
            case measure => simp [intOf] <;> omega
        · by_cases hhi : 7 < a.at_
          · cases hla : m.lasts
            · obtain ⟨m', hm0, hE', hdd, hdn⟩ := hE.out.write_no (7) (by omega) a.data hla
              have hres : Hid ((m.write (7) a.data).2 = 42) := Lib.hid (by rw [hm0])
              have hm' : Hid ((m.write (7) a.data).1 = m') := Lib.hid (by rw [hm0])
              obtain ⟨s', hrd⟩ := hE'.read_no hdd
              have hrd := Lib.hid hrd
              have hddH := Lib.hid hdd
              have hpl' : m'.pending.length ≤ 1000000000 := by have := hE'.pend; omega
              have hE' := Lib.hid hE'
              subst hdn
              clear hm0 hla hdd
              go_wp2_with (first
                | (refine wantList_load (by rfl) 36 _ rfl b (off + k * 131) (by rfl) (actL a) _ hr.out Try.underlying36 rfl (infoActL _) ?_)
                | (refine wantList_store (by rfl) 36 _ _ rfl wr.heap.size 0 (by rfl) (actL a) (by rfl) _ (actL act0) (actL a) (Blk.new _ _ _) (by simp [actL_length]) (actL_one _) (infoActL _) (whole_new (by simp [actL_length])) ?_
                   intro w1 hA1 k1 z1
                   have ho1 := Lib.hid (Dev0.mk (B := w.heap.size) ((ho.out.dev.alloc (.cells (actL act0).toArray 36)).kept k1 (fun i hi e => by have := ho.out.dev.lt i hi; omega)) ho.out.low)
                   have q1 := Lib.hid (Kept.out (hb.out.alloc hbs _) k1 (fun i _ e => by omega) (by simp; omega))
                   have c0 := act_c0 hA1
                   have c1 := act_c1 hA1
                   have r1 := Lib.hid (act_r2 hA1)
                   have hA1 := Lib.hid hA1
                   rw [hkd.out] at c0
                   clear k1 z1)
                | (refine wantList_load (by rfl) 33 _ rfl wr.heap.size 2 (by rfl) (secL a.data) _ r1.out Try.underlying33 rfl (infoSecL _) ?_))
              refine (o_Write ho1.out.dev (7) (by unfold I64; omega) a.data hpl).mono ?_
              rintro e w2 ⟨rfl, F2, h2, k2, g2⟩
              rw [hres.out]
              rw [hm'.out] at h2
              have hs1 : w.heap.size ≤ w1.heap.size := q1.out.size
              have q2 := Lib.hid (Kept.out q1.out k2 (fun i _ hi => ho1.out.low i hi) hs1)
              have lo2 := Lib.hid (g2.low ho1.out.low hs1)
              have h2 := Lib.hid h2
              clear k2 g2
              go_wp2_with fail
              refine (o_Read h2.out 0 (by unfold I64; omega)).mono ?_
              rintro e w3 ⟨rfl, F3, h3, k3, g3⟩
              rw [hrd.out]
              have q3 := Lib.hid (Kept.out q2.out k3 (fun i _ hi => lo2.out i hi) q2.out.size)
              have lo3 := Lib.hid (g3.low lo2.out q2.out.size)
              have hs3 : w.heap.size ≤ w3.heap.size := q3.out.size
              have h3 := Lib.hid h3
              clear k3 g3
              go_wp2_with (refine wantList_store (by rfl) 33 _ _ rfl w3.heap.size 0 (by rfl) (secL s') (by rfl) _ (secL sec0) (secL s') (Blk.new _ _ _) (by simp [secL_length]) (secL_one _) (infoSecL _) (whole_new (by simp [secL_length])) ?_
                           intro w4 hs4 k4 z4
                           have h4 := Lib.hid ((h3.out.alloc (.cells (secL sec0).toArray 33)).kept k4 (fun i hi e => by have := h3.out.lt i hi; omega))
                           have q4 := Lib.hid (Kept.out (q3.out.alloc q3.out.size _) k4 (fun i _ e => by omega) (by simp; omega))
                           clear k4 z4 hs4)
              refine (o_Dead h4.out).mono ?_
              rintro e w5 ⟨rfl, rfl⟩
              rw [show m'.tick.dead = m'.dead from rfl, hddH.out]
              go_wp2_with fail
              refine (o_Dead h4.out).mono ?_
              rintro e w5 ⟨rfl, rfl⟩
              rw [show m'.tick.dead = m'.dead from rfl, hddH.out]
              go_wp2_with fail
              refine (o_Dead h4.out).mono ?_
              rintro e w5 ⟨rfl, rfl⟩
              rw [show m'.tick.dead = m'.dead from rfl, hddH.out]
              go_wp2_with fail
              go_roundw
              case rel => exact ⟨k + 1, F3, m'.tick, done, by omega, by go_num, rfl, Lib.hid ⟨h4.out, lo3.out⟩, Lib.hid hE'.out.tick, q4⟩
              case measure => simp [intOf] <;> omega
            · obtain ⟨m', hm0, hE', hdd, hdn⟩ := hE.out.write_ok (7) (by omega) a.data hla
              have hres : Hid ((m.write (7) a.data).2 = 0) := Lib.hid (by rw [hm0])
              have hm' : Hid ((m.write (7) a.data).1 = m') := Lib.hid (by rw [hm0])
              obtain ⟨s', hrd⟩ := hE'.read_ok hdd
              have hrd := Lib.hid hrd
              have hddH := Lib.hid hdd
              have hpl' : m'.pending.length ≤ 1000000000 := by have := hE'.pend; omega
              have hE' := Lib.hid hE'
              clear hm0 hla hdd
              go_wp2_with (first
                | (refine wantList_load (by rfl) 36 _ rfl b (off + k * 131) (by rfl) (actL a) _ hr.out Try.underlying36 rfl (infoActL _) ?_)
                | (refine wantList_store (by rfl) 36 _ _ rfl wr.heap.size 0 (by rfl) (actL a) (by rfl) _ (actL act0) (actL a) (Blk.new _ _ _) (by simp [actL_length]) (actL_one _) (infoActL _) (whole_new (by simp [actL_length])) ?_
                   intro w1 hA1 k1 z1
                   have ho1 := Lib.hid (Dev0.mk (B := w.heap.size) ((ho.out.dev.alloc (.cells (actL act0).toArray 36)).kept k1 (fun i hi e => by have := ho.out.dev.lt i hi; omega)) ho.out.low)
                   have q1 := Lib.hid (Kept.out (hb.out.alloc hbs _) k1 (fun i _ e => by omega) (by simp; omega))
                   have c0 := act_c0 hA1
                   have c1 := act_c1 hA1
                   have r1 := Lib.hid (act_r2 hA1)
                   have hA1 := Lib.hid hA1
                   rw [hkd.out] at c0
                   clear k1 z1)
                | (refine wantList_load (by rfl) 33 _ rfl wr.heap.size 2 (by rfl) (secL a.data) _ r1.out Try.underlying33 rfl (infoSecL _) ?_))
              refine (o_Write ho1.out.dev (7) (by unfold I64; omega) a.data hpl).mono ?_
              rintro e w2 ⟨rfl, F2, h2, k2, g2⟩
              rw [hres.out]
              rw [hm'.out] at h2
              have hs1 : w.heap.size ≤ w1.heap.size := q1.out.size
              have q2 := Lib.hid (Kept.out q1.out k2 (fun i _ hi => ho1.out.low i hi) hs1)
              have lo2 := Lib.hid (g2.low ho1.out.low hs1)
              have h2 := Lib.hid h2
              clear k2 g2
              go_wp2_with fail
              refine (o_Read h2.out 0 (by unfold I64; omega)).mono ?_
              rintro e w3 ⟨rfl, F3, h3, k3, g3⟩
              rw [hrd.out]
              have q3 := Lib.hid (Kept.out q2.out k3 (fun i _ hi => lo2.out i hi) q2.out.size)
              have lo3 := Lib.hid (g3.low lo2.out q2.out.size)
              have hs3 : w.heap.size ≤ w3.heap.size := q3.out.size
              have h3 := Lib.hid h3
              clear k3 g3
              go_wp2_with (refine wantList_store (by rfl) 33 _ _ rfl w3.heap.size 0 (by rfl) (secL s') (by rfl) _ (secL sec0) (secL s') (Blk.new _ _ _) (by simp [secL_length]) (secL_one _) (infoSecL _) (whole_new (by simp [secL_length])) ?_
                           intro w4 hs4 k4 z4
                           have h4 := Lib.hid ((h3.out.alloc (.cells (secL sec0).toArray 33)).kept k4 (fun i hi e => by have := h3.out.lt i hi; omega))
                           have q4 := Lib.hid (Kept.out (q3.out.alloc q3.out.size _) k4 (fun i _ e => by omega) (by simp; omega))
                           clear k4 z4 hs4)
              refine (o_Dead h4.out).mono ?_
              rintro e w5 ⟨rfl, rfl⟩
              rw [show m'.tick.dead = m'.dead from rfl, hddH.out]
              go_wp2_with fail
              refine (o_Dead h4.out).mono ?_
              rintro e w5 ⟨rfl, rfl⟩
              rw [show m'.tick.dead = m'.dead from rfl, hddH.out]
              go_wp2_with fail
              refine (o_Dead h4.out).mono ?_
              rintro e w5 ⟨rfl, rfl⟩
              rw [show m'.tick.dead = m'.dead from rfl, hddH.out]
              go_wp2_with fail
              go_roundw
              case rel => exact ⟨k + 1, F3, m'.tick, done + 1, by omega, by go_num, rfl, Lib.hid ⟨h4.out, lo3.out⟩, Lib.hid hE'.out.tick, q4⟩
              case measure => simp [intOf] <;> omega
          · cases hla : m.lasts
            · obtain ⟨m', hm0, hE', hdd, hdn⟩ := hE.out.write_no (a.at_) (by omega) a.data hla
              have hres : Hid ((m.write (a.at_) a.data).2 = 42) := Lib.hid (by rw [hm0])
              have hm' : Hid ((m.write (a.at_) a.data).1 = m') := Lib.hid (by rw [hm0])
              obtain ⟨s', hrd⟩ := hE'.read_no hdd
              have hrd := Lib.hid hrd
              have hddH := Lib.hid hdd
              have hpl' : m'.pending.length ≤ 1000000000 := by have := hE'.pend; omega
              have hE' := Lib.hid hE'
              subst hdn
              clear hm0 hla hdd
              go_wp2_with (first
                | (refine wantList_load (by rfl) 36 _ rfl b (off + k * 131) (by rfl) (actL a) _ hr.out Try.underlying36 rfl (infoActL _) ?_)
                | (refine wantList_store (by rfl) 36 _ _ rfl wr.heap.size 0 (by rfl) (actL a) (by rfl) _ (actL act0) (actL a) (Blk.new _ _ _) (by simp [actL_length]) (actL_one _) (infoActL _) (whole_new (by simp [actL_length])) ?_
                   intro w1 hA1 k1 z1
                   have ho1 := Lib.hid (Dev0.mk (B := w.heap.size) ((ho.out.dev.alloc (.cells (actL act0).toArray 36)).kept k1 (fun i hi e => by have := ho.out.dev.lt i hi; omega)) ho.out.low)
                   have q1 := Lib.hid (Kept.out (hb.out.alloc hbs _) k1 (fun i _ e => by omega) (by simp; omega))
                   have c0 := act_c0 hA1
                   have c1 := act_c1 hA1
                   have r1 := Lib.hid (act_r2 hA1)
                   have hA1 := Lib.hid hA1
                   rw [hkd.out] at c0
                   clear k1 z1)
                | (refine wantList_load (by rfl) 33 _ rfl wr.heap.size 2 (by rfl) (secL a.data) _ r1.out Try.underlying33 rfl (infoSecL _) ?_))
              refine (o_Write ho1.out.dev (a.at_) (by unfold I64; omega) a.data hpl).mono ?_
              rintro e w2 ⟨rfl, F2, h2, k2, g2⟩
              rw [hres.out]
              rw [hm'.out] at h2
              have hs1 : w.heap.size ≤ w1.heap.size := q1.out.size
              have q2 := Lib.hid (Kept.out q1.out k2 (fun i _ hi => ho1.out.low i hi) hs1)
              have lo2 := Lib.hid (g2.low ho1.out.low hs1)
              have h2 := Lib.hid h2
              clear k2 g2
              go_wp2_with fail
              refine (o_Read h2.out 0 (by unfold I64; omega)).mono ?_
              rintro e w3 ⟨rfl, F3, h3, k3, g3⟩
              rw [hrd.out]
              have q3 := Lib.hid (Kept.out q2.out k3 (fun i _ hi => lo2.out i hi) q2.out.size)
              have lo3 := Lib.hid (g3.low lo2.out q2.out.size)
              have hs3 : w.heap.size ≤ w3.heap.size := q3.out.size
              have h3 := Lib.hid h3
              clear k3 g3
              go_wp2_with (refine wantList_store (by rfl) 33 _ _ rfl w3.heap.size 0 (by rfl) (secL s') (by rfl) _ (secL sec0) (secL s') (Blk.new _ _ _) (by simp [secL_length]) (secL_one _) (infoSecL _) (whole_new (by simp [secL_length])) ?_
                           intro w4 hs4 k4 z4
                           have h4 := Lib.hid ((h3.out.alloc (.cells (secL sec0).toArray 33)).kept k4 (fun i hi e => by have := h3.out.lt i hi; omega))
                           have q4 := Lib.hid (Kept.out (q3.out.alloc q3.out.size _) k4 (fun i _ e => by omega) (by simp; omega))
                           clear k4 z4 hs4)
              refine (o_Dead h4.out).mono ?_
              rintro e w5 ⟨rfl, rfl⟩
              rw [show m'.tick.dead = m'.dead from rfl, hddH.out]
              go_wp2_with fail
              refine (o_Dead h4.out).mono ?_
              rintro e w5 ⟨rfl, rfl⟩
              rw [show m'.tick.dead = m'.dead from rfl, hddH.out]
              go_wp2_with fail
              refine (o_Dead h4.out).mono ?_
              rintro e w5 ⟨rfl, rfl⟩
              rw [show m'.tick.dead = m'.dead from rfl, hddH.out]
              go_wp2_with fail
              go_roundw
              case rel => exact ⟨k + 1, F3, m'.tick, done, by omega, by go_num, rfl, Lib.hid ⟨h4.out, lo3.out⟩, Lib.hid hE'.out.tick, q4⟩
              case measure => simp [intOf] <;> omega
            · obtain ⟨m', hm0, hE', hdd, hdn⟩ := hE.out.write_ok (a.at_) (by omega) a.data hla
              have hres : Hid ((m.write (a.at_) a.data).2 = 0) := Lib.hid (by rw [hm0])
              have hm' : Hid ((m.write (a.at_) a.data).1 = m') := Lib.hid (by rw [hm0])
              obtain ⟨s', hrd⟩ := hE'.read_ok hdd
              have hrd := Lib.hid hrd
              have hddH := Lib.hid hdd
              have hpl' : m'.pending.length ≤ 1000000000 := by have := hE'.pend; omega
              have hE' := Lib.hid hE'
              clear hm0 hla hdd
              go_wp2_with (first
                | (refine wantList_load (by rfl) 36 _ rfl b (off + k * 131) (by rfl) (actL a) _ hr.out Try.underlying36 rfl (infoActL _) ?_)
                | (refine wantList_store (by rfl) 36 _ _ rfl wr.heap.size 0 (by rfl) (actL a) (by rfl) _ (actL act0) (actL a) (Blk.new _ _ _) (by simp [actL_length]) (actL_one _) (infoActL _) (whole_new (by simp [actL_length])) ?_
                   intro w1 hA1 k1 z1
                   have ho1 := Lib.hid (Dev0.mk (B := w.heap.size) ((ho.out.dev.alloc (.cells (actL act0).toArray 36)).kept k1 (fun i hi e => by have := ho.out.dev.lt i hi; omega)) ho.out.low)
                   have q1 := Lib.hid (Kept.out (hb.out.alloc hbs _) k1 (fun i _ e => by omega) (by simp; omega))
                   have c0 := act_c0 hA1
                   have c1 := act_c1 hA1
                   have r1 := Lib.hid (act_r2 hA1)
                   have hA1 := Lib.hid hA1
                   rw [hkd.out] at c0
                   clear k1 z1)
                | (refine wantList_load (by rfl) 33 _ rfl wr.heap.size 2 (by rfl) (secL a.data) _ r1.out Try.underlying33 rfl (infoSecL _) ?_))
              refine (o_Write ho1.out.dev (a.at_) (by unfold I64; omega) a.data hpl).mono ?_
              rintro e w2 ⟨rfl, F2, h2, k2, g2⟩
              rw [hres.out]
              rw [hm'.out] at h2
              have hs1 : w.heap.size ≤ w1.heap.size := q1.out.size
              have q2 := Lib.hid (Kept.out q1.out k2 (fun i _ hi => ho1.out.low i hi) hs1)
              have lo2 := Lib.hid (g2.low ho1.out.low hs1)
              have h2 := Lib.hid h2
              clear k2 g2
              go_wp2_with fail
              refine (o_Read h2.out 0 (by unfold I64; omega)).mono ?_
              rintro e w3 ⟨rfl, F3, h3, k3, g3⟩
              rw [hrd.out]
              have q3 := Lib.hid (Kept.out q2.out k3 (fun i _ hi => lo2.out i hi) q2.out.size)
              have lo3 := Lib.hid (g3.low lo2.out q2.out.size)
              have hs3 : w.heap.size ≤ w3.heap.size := q3.out.size
              have h3 := Lib.hid h3
              clear k3 g3
              go_wp2_with (refine wantList_store (by rfl) 33 _ _ rfl w3.heap.size 0 (by rfl) (secL s') (by rfl) _ (secL sec0) (secL s') (Blk.new _ _ _) (by simp [secL_length]) (secL_one _) (infoSecL _) (whole_new (by simp [secL_length])) ?_
                           intro w4 hs4 k4 z4
                           have h4 := Lib.hid ((h3.out.alloc (.cells (secL sec0).toArray 33)).kept k4 (fun i hi e => by have := h3.out.lt i hi; omega))
                           have q4 := Lib.hid (Kept.out (q3.out.alloc q3.out.size _) k4 (fun i _ e => by omega) (by simp; omega))
                           clear k4 z4 hs4)
              refine (o_Dead h4.out).mono ?_
              rintro e w5 ⟨rfl, rfl⟩
              rw [show m'.tick.dead = m'.dead from rfl, hddH.out]
              go_wp2_with fail
              refine (o_Dead h4.out).mono ?_
              rintro e w5 ⟨rfl, rfl⟩
              rw [show m'.tick.dead = m'.dead from rfl, hddH.out]
              go_wp2_with fail
              refine (o_Dead h4.out).mono ?_
              rintro e w5 ⟨rfl, rfl⟩
              rw [show m'.tick.dead = m'.dead from rfl, hddH.out]
              go_wp2_with fail
              go_roundw
              case rel => exact ⟨k + 1, F3, m'.tick, done + 1, by omega, by go_num, rfl, Lib.hid ⟨h4.out, lo3.out⟩, Lib.hid hE'.out.tick, q4⟩
              case measure => simp [intOf] <;> omega
      · have e1 : (a.kind == 1) = false := by simpa using hk1
        cases hla : m.lasts
        · obtain ⟨m', hm0, hE', hdd, hdn⟩ := hE.out.flush_no hla
          have hres : Hid (m.flush.2 = 42) := Lib.hid (by rw [hm0])
          have hm' : Hid (m.flush.1 = m') := Lib.hid (by rw [hm0])
          obtain ⟨s', hrd⟩ := hE'.read_no hdd
          have hrd := Lib.hid hrd
          have hddH := Lib.hid hdd
          have hpl' : m'.pending.length ≤ 1000000000 := by have := hE'.pend; omega
          have hE' := Lib.hid hE'
          subst hdn
          clear hm0 hla hdd
          go_wp2_with (first
            | (refine wantList_load (by rfl) 36 _ rfl b (off + k * 131) (by rfl) (actL a) _ hr.out Try.underlying36 rfl (infoActL _) ?_)
            | (refine wantList_store (by rfl) 36 _ _ rfl wr.heap.size 0 (by rfl) (actL a) (by rfl) _ (actL act0) (actL a) (Blk.new _ _ _) (by simp [actL_length]) (actL_one _) (infoActL _) (whole_new (by simp [actL_length])) ?_
               intro w1 hA1 k1 z1
               have ho1 := Lib.hid (Dev0.mk (B := w.heap.size) ((ho.out.dev.alloc (.cells (actL act0).toArray 36)).kept k1 (fun i hi e => by have := ho.out.dev.lt i hi; omega)) ho.out.low)
               have q1 := Lib.hid (Kept.out (hb.out.alloc hbs _) k1 (fun i _ e => by omega) (by simp; omega))
               have c0 := act_c0 hA1
               have c1 := act_c1 hA1
               have r1 := Lib.hid (act_r2 hA1)
               have hA1 := Lib.hid hA1
               skip
               clear k1 z1)
            | (refine wantList_load (by rfl) 33 _ rfl wr.heap.size 2 (by rfl) (secL a.data) _ r1.out Try.underlying33 rfl (infoSecL _) ?_))
          refine (o_Flush ho1.out.dev hpl).mono ?_
          rintro e w2 ⟨rfl, F2, h2, k2, g2⟩
          rw [hres.out]
          rw [hm'.out] at h2
          have hs1 : w.heap.size ≤ w1.heap.size := q1.out.size
          have q2 := Lib.hid (Kept.out q1.out k2 (fun i _ hi => ho1.out.low i hi) hs1)
          have lo2 := Lib.hid (g2.low ho1.out.low hs1)
          have h2 := Lib.hid h2
          clear k2 g2
          go_wp2_with fail
          refine (o_Read h2.out 0 (by unfold I64; omega)).mono ?_
          rintro e w3 ⟨rfl, F3, h3, k3, g3⟩
          rw [hrd.out]
          have q3 := Lib.hid (Kept.out q2.out k3 (fun i _ hi => lo2.out i hi) q2.out.size)
          have lo3 := Lib.hid (g3.low lo2.out q2.out.size)
          have hs3 : w.heap.size ≤ w3.heap.size := q3.out.size
          have h3 := Lib.hid h3
          clear k3 g3
          go_wp2_with (refine wantList_store (by rfl) 33 _ _ rfl w3.heap.size 0 (by rfl) (secL s') (by rfl) _ (secL sec0) (secL s') (Blk.new _ _ _) (by simp [secL_length]) (secL_one _) (infoSecL _) (whole_new (by simp [secL_length])) ?_
                       intro w4 hs4 k4 z4
                       have h4 := Lib.hid ((h3.out.alloc (.cells (secL sec0).toArray 33)).kept k4 (fun i hi e => by have := h3.out.lt i hi; omega))
                       have q4 := Lib.hid (Kept.out (q3.out.alloc q3.out.size _) k4 (fun i _ e => by omega) (by simp; omega))
                       clear k4 z4 hs4)
          refine (o_Dead h4.out).mono ?_
          rintro e w5 ⟨rfl, rfl⟩
          rw [show m'.tick.dead = m'.dead from rfl, hddH.out]
          go_wp2_with fail
          refine (o_Dead h4.out).mono ?_
          rintro e w5 ⟨rfl, rfl⟩
          rw [show m'.tick.dead = m'.dead from rfl, hddH.out]
          go_wp2_with fail
          refine (o_Dead h4.out).mono ?_
          rintro e w5 ⟨rfl, rfl⟩
          rw [show m'.tick.dead = m'.dead from rfl, hddH.out]
          go_wp2_with fail
          go_roundw
          case rel => exact ⟨k + 1, F3, m'.tick, done, by omega, by go_num, rfl, Lib.hid ⟨h4.out, lo3.out⟩, Lib.hid hE'.out.tick, q4⟩
          case measure => simp [intOf] <;> omega
        · obtain ⟨m', hm0, hE', hdd, hdn⟩ := hE.out.flush_ok hla
          have hres : Hid (m.flush.2 = 0) := Lib.hid (by rw [hm0])
          have hm' : Hid (m.flush.1 = m') := Lib.hid (by rw [hm0])
          obtain ⟨s', hrd⟩ := hE'.read_ok hdd
          have hrd := Lib.hid hrd
          have hddH := Lib.hid hdd
          have hpl' : m'.pending.length ≤ 1000000000 := by have := hE'.pend; omega
          have hE' := Lib.hid hE'
          clear hm0 hla hdd
          go_wp2_with (first
            | (refine wantList_load (by rfl) 36 _ rfl b (off + k * 131) (by rfl) (actL a) _ hr.out Try.underlying36 rfl (infoActL _) ?_)
            | (refine wantList_store (by rfl) 36 _ _ rfl wr.heap.size 0 (by rfl) (actL a) (by rfl) _ (actL act0) (actL a) (Blk.new _ _ _) (by simp [actL_length]) (actL_one _) (infoActL _) (whole_new (by simp [actL_length])) ?_
               intro w1 hA1 k1 z1
               have ho1 := Lib.hid (Dev0.mk (B := w.heap.size) ((ho.out.dev.alloc (.cells (actL act0).toArray 36)).kept k1 (fun i hi e => by have := ho.out.dev.lt i hi; omega)) ho.out.low)
               have q1 := Lib.hid (Kept.out (hb.out.alloc hbs _) k1 (fun i _ e => by omega) (by simp; omega))
               have c0 := act_c0 hA1
               have c1 := act_c1 hA1
               have r1 := Lib.hid (act_r2 hA1)
               have hA1 := Lib.hid hA1
               skip
               clear k1 z1)
            | (refine wantList_load (by rfl) 33 _ rfl wr.heap.size 2 (by rfl) (secL a.data) _ r1.out Try.underlying33 rfl (infoSecL _) ?_))
          refine (o_Flush ho1.out.dev hpl).mono ?_
          rintro e w2 ⟨rfl, F2, h2, k2, g2⟩
          rw [hres.out]
          rw [hm'.out] at h2
          have hs1 : w.heap.size ≤ w1.heap.size := q1.out.size
          have q2 := Lib.hid (Kept.out q1.out k2 (fun i _ hi => ho1.out.low i hi) hs1)
          have lo2 := Lib.hid (g2.low ho1.out.low hs1)
          have h2 := Lib.hid h2
          clear k2 g2
          go_wp2_with fail
          refine (o_Read h2.out 0 (by unfold I64; omega)).mono ?_
          rintro e w3 ⟨rfl, F3, h3, k3, g3⟩
          rw [hrd.out]
          have q3 := Lib.hid (Kept.out q2.out k3 (fun i _ hi => lo2.out i hi) q2.out.size)
          have lo3 := Lib.hid (g3.low lo2.out q2.out.size)
          have hs3 : w.heap.size ≤ w3.heap.size := q3.out.size
          have h3 := Lib.hid h3
          clear k3 g3
          go_wp2_with (refine wantList_store (by rfl) 33 _ _ rfl w3.heap.size 0 (by rfl) (secL s') (by rfl) _ (secL sec0) (secL s') (Blk.new _ _ _) (by simp [secL_length]) (secL_one _) (infoSecL _) (whole_new (by simp [secL_length])) ?_
                       intro w4 hs4 k4 z4
                       have h4 := Lib.hid ((h3.out.alloc (.cells (secL sec0).toArray 33)).kept k4 (fun i hi e => by have := h3.out.lt i hi; omega))
                       have q4 := Lib.hid (Kept.out (q3.out.alloc q3.out.size _) k4 (fun i _ e => by omega) (by simp; omega))
                       clear k4 z4 hs4)
          refine (o_Dead h4.out).mono ?_
          rintro e w5 ⟨rfl, rfl⟩
          rw [show m'.tick.dead = m'.dead from rfl, hddH.out]
          go_wp2_with fail
          refine (o_Dead h4.out).mono ?_
          rintro e w5 ⟨rfl, rfl⟩
          rw [show m'.tick.dead = m'.dead from rfl, hddH.out]
          go_wp2_with fail
          refine (o_Dead h4.out).mono ?_
          rintro e w5 ⟨rfl, rfl⟩
          rw [show m'.tick.dead = m'.dead from rfl, hddH.out]
          go_wp2_with fail
          go_roundw
          case rel => exact ⟨k + 1, F3, m'.tick, done + 1, by omega, by go_num, rfl, Lib.hid ⟨h4.out, lo3.out⟩, Lib.hid hE'.out.tick, q4⟩
          case measure => simp [intOf] <;> omega
    · obtain rfl : k = n := by omega
      go_wp2_with fail
      refine (o_Crash ho.out.dev none 0 [] hpl (by simp) (Reads.nil _ _) (fun h => absurd rfl h)).mono ?_
      rintro e w2 ⟨rfl, F2, h2, k2, g2⟩
      have q2 := Lib.hid (Kept.out hb.out k2 (fun i _ hi => ho.out.low i hi) hbs)
      have lo2 := Lib.hid (g2.low ho.out.low hbs)
      have hs2 : w.heap.size ≤ w2.heap.size := q2.out.size
      have h2 := Lib.hid h2
      clear k2 g2
      go_wp2_with fail
      refine (o_Dead h2.out).mono ?_
      rintro e w3 ⟨rfl, rfl⟩
      rw [show (m.crash []).dead = false from rfl]
      go_wp2_with (refine wantList_build (by rfl) 33 [] rfl (secL sec0) _ (by rfl) built_sec0 ?_)
      have hwr : ((m.crash []).write 7 sec0).2 = 0 := by
        have h1 : (m.crash []).has 7 = true := by
          unfold DevM.has
          rw [show (m.crash []).stable.length = 8 from (putAll_length _ _).trans hE.out.len]
          rfl
        have h2 : (m.crash []).lasts = true := rfl
        unfold DevM.write
        rw [h1, h2]
        rfl
      have hwr := Lib.hid hwr
      refine (o_Write h2.out 7 (by unfold I64; omega) sec0 (by show 0 ≤ _; omega)).mono ?_
      rintro e w3 ⟨rfl, F3, h3, k3, g3⟩
      rw [hwr.out]
      have q3 := Lib.hid (Kept.out q2.out k3 (fun i _ hi => lo2.out i hi) hs2)
      clear k3 g3 h3
      go_wp2
      go_ret
      exact ⟨rfl, q3.out⟩

set_option maxHeartbeats 2000000 in
theorem way_no (nn : Int) (ao : Option Addr) (n cap : Nat) (w : World) (h : 200 < n ∨ (n ≤ 200 ∧ nn < 0)) :
    Calls Try.prog 7 #[.int .i64 nn, .slice ao n cap] w fun e w' => e = .returned (.bool true) ∧ Below w.heap.size w w' := by
  rcases h with h | ⟨h, h1⟩
  all_goals
    go_enter Try.func7, Try.ntmps7
    go_wp2_with fail
    refine (alive_any w).mono ?_
    rintro e wa ⟨rfl, ba⟩
    have ba := Lib.hid ba
    go_wp2_with fail
    refine (New_any 8 (by unfold I64; omega) wa).mono ?_
    rintro e wb ⟨d, F0, rfl, hd0, lo0, bb⟩
    have q0 := Lib.hid (ba.out.trans (bb.mono ba.out.size))
    clear bb lo0 hd0
    go_wp2
    go_ret
    exact ⟨rfl, q0.out⟩

theorem walk (nn : Int) (ao : Option Addr) (as_ : List ActM) (cap : Nat) (w : World) (hi : I64 nn) (hacts : Acts w ao as_) (hl : as_.length ≤ 140737488351232) (hnil : ao = none → cap = 0) :
    Calls Try.prog 7 #[.int .i64 nn, .slice ao as_.length cap] w fun e w' => e = .returned (.bool true) ∧ Below w.heap.size w w' := by
  by_cases h1 : as_.length ≤ 200
  · by_cases h2 : 0 ≤ nn
    · exact way_yes nn ao as_ cap _ w hacts (Lib.hid rfl) h1 h2 hi.2
    · exact way_no nn ao _ cap w (.inr ⟨h1, by omega⟩)
  · exact way_no nn ao _ cap w (.inl (by omega))

theorem own : ownKnob Try.prog.godebug = none := by kernel_rfl
theorem laidOut : laidOutB Try.prog = true := by kernel_rfl

set_option maxRecDepth 100000 in
theorem lifted (os : Os) (started : os.Started) (H : Type) (enc : TypeId × Value → H) :
    ReturnsInHanded {} Try.checked os 7 .any (Rows.vdevEndsSpec.pre6 enc Try.prog Try.f7 Rows.vdevEndsRow.domain false) (Rows.vdevEndsSpec.post enc Try.prog Try.f7 false true false false) := by
  refine returnsInHanded_of_change_sized (C := Try.checked) own started (by kernel_rfl) Try.func7
    (ChangeSpec.witness6 (enc := enc) (C := Try.checked) false ⟨#[], #[.int .i64 0, .slice none 0 0], []⟩ 8 (by kernel_rfl) (by kernel_rfl) (by kernel_rfl) (by kernel_rfl)) ?_
  intro W base args ds gs before hval0 hW hcnd hsz0 _
  have hval : ∀ (j : Nat) t v, Try.f7.params[j]? = some t → args[j]? = some v → Value.okWide Try.prog W .any base t v := hval0
  have hsz : (DataW.weightsEach Try.prog (Try.f7.params.toList ++ Rows.vdevEndsSpec.plain.varTypes Try.prog) (ds ++ gs)).all (· ≤ reachBytes) = true := hsz0
  have hW' := hW
  obtain ⟨p, q, hA0, hV, rfl, hfz, hnd⟩ := hW
  have hA : DataW.TrodAll enc Try.prog W 0 (fun _ => true) true Try.f7.params.toList args.toList ds p := hA0
  rw [Try.params7] at hA hval hsz
  obtain ⟨v0, vs0, d0, ds0, p0, q0, hargs, rfl, rfl, h0, r0⟩ := trodAll_cons hA
  obtain ⟨v1, vs1, d1, ds1, p1, q1, rfl, rfl, rfl, h1, r1⟩ := trodAll_cons r0
  obtain ⟨rfl, rfl, rfl⟩ := trodAll_nil r1
  obtain rfl : args = #[v0, v1] := by cases args; simp_all
  obtain ⟨rfl, rfl⟩ := trodVars_none hV
  obtain ⟨a0, rfl, rfl, rfl, wf0⟩ := open_int Try.underlying3 (hval 0 3 v0 rfl rfl) h0
  have k1 := h1
  have lt1 : ∀ x ∈ p1, x.block < W.heap.size := by obtain ⟨m, hm⟩ := k1; exact DataW.trod_lt m _ _ _ hm
  obtain ⟨ao1, a1, cap1, rfl, sp1, fi1, nl1⟩ := arg_acts h1 (hval 1 26 v1 rfl rfl) (light_arg hsz (j := 1) (t := 26) rfl rfl)
  clear hA0 hval0 hsz0
  refine (walk a0 ao1 a1 cap1 W (wf_i64 wf0) sp1 fi1 nl1).mono fun e W' ⟨he, bel⟩ => ?_
  subst he
  exact ⟨_, rfl, _, _, _, [], _, [], hW', trodAll_mk1 (shut_bool Try.underlying4 _), (trodAll_cons_mk (shut_int Try.underlying3 wf0) (trodAll_cons_mk (Below.trod laidOut (by kernel_rfl) (of_decide_eq_true (by kernel_rfl)) k1 bel lt1) trodAll_mk0)), rfl, bel.frame _, fun h => by cases h⟩

theorem proved : Rows.VdevEndsSaid :=
  OpenClaim.holds_of_wide 7 Try.f7 rfl rfl rfl rfl rfl rfl rfl ⟨rfl, rfl, rfl, rfl, rfl⟩ rfl rfl rfl rfl rfl (by kernel_rfl) Try.func7 (by kernel_rfl)
    (of_decide_eq_true (by kernel_rfl)) (by unfold Func.isWrapper; first | (rw [if_pos (by decide +kernel)]; kernel_rfl) | (rw [if_neg (by decide +kernel)]; exact ⟨rfl, rfl⟩))
    (fun os started H enc _ => lifted os started H enc)
end Go.Proofs.Ytfpacnokecfhmaa.lawVdevEnds
