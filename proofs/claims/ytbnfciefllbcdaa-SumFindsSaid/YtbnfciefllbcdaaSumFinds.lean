/- SumFinds, for every input: the law returns true and each argument reads behind the call as before. No condition. -/
import Derived.Test.YtbnfciefllbcdaaSumE
namespace Go.Proofs.Ytbnfciefllbcdaa.lawSumFinds
open Go.ChangeShapes Go.WideShapes Go.ChangeAt Go.RowKit Go.Deep
set_option linter.unusedVariables false

theorem xor_ne {x t : Nat} (hx : x < 256) (ht : t < 256) (h : t ≠ 0) : UInt8.ofNat (x ^^^ t) ≠ UInt8.ofNat x := by
  intro e
  have h1 : x ^^^ t < 256 := Nat.xor_lt_two_pow (n := 8) hx ht
  have := congrArg UInt8.toNat e
  simp only [UInt8.toNat_ofNat', Nat.reducePow, Nat.mod_eq_of_lt h1, Nat.mod_eq_of_lt hx] at this
  have h2 := congrArg (x ^^^ ·) this
  simp only [← Nat.xor_assoc, Nat.xor_self, Nat.zero_xor] at h2
  exact h h2

theorem byteV_of' {n : Nat} {y : UInt8} (h : y = UInt8.ofNat n) (hn : n < 256) : Value.int .u8 (n : Int) = byteV y := by
  subst h
  exact byteV_of (by rw [Nat.mod_eq_of_lt hn])

set_option maxHeartbeats 2000000 in
theorem way_no (ao : Option Addr) (bs : List UInt8) (cap : Nat) (k : Int) (t : Nat) (w : World) (hk : I64 k) (ht : t < 256) (hf : bs.length ≤ 140737488351232)
    (hno : k < 0 ∨ (0 ≤ k ∧ (bs.length : Int) ≤ k) ∨ (0 ≤ k ∧ k < bs.length ∧ t = 0) ∨ (0 ≤ k ∧ k < bs.length ∧ 0 < t ∧ 5000 < bs.length)) :
    Calls Try.prog 6 #[.slice ao bs.length cap, .int .i64 k, .int .u8 (t : Int)] w fun e w' => e = .returned (.bool true) ∧ Below w.heap.size w w' := by
  unfold I64 at hk
  rcases hno with h | ⟨h, h'⟩ | ⟨h, h', rfl⟩ | ⟨h, h', h2, h3⟩
  all_goals
    go_enter Try.func6, Try.ntmps6
    go_wp2_with fail
    refine (names_any w).mono ?_
    rintro e w1 ⟨rfl, hb1⟩
    have hb1 := Lib.hid hb1
    go_wp2
    go_ret
    exact ⟨rfl, hb1.out⟩

set_option maxHeartbeats 2000000 in
theorem way_yes (ao : Option Addr) (bs : List UInt8) (cap : Nat) (k t : Nat) (w : World) (hx : Bytes w ao bs) (hn : ao = none → cap = 0) (hk : k < bs.length) (h0 : 0 < t) (ht : t < 256) (hf : bs.length ≤ 5000) :
    Calls Try.prog 6 #[.slice ao bs.length cap, .int .i64 (k : Int), .int .u8 (t : Int)] w fun e w' => e = .returned (.bool true) ∧ Below w.heap.size w w' := by
  obtain ⟨i0, hi, hz0, hz1, hz2⟩ := info_parts infoU8
  have hx1 := Lib.hid hx
  have hn1 := Lib.hid hn
  have la := Lib.hid (bytesV_length bs)
  have oa := Lib.hid (bytesV_one bs)
  have hz := bs[k].toNat_lt
  have hm : Hid (bits .xor .u8 (bs[k].toNat : Int) (t : Int) = ((bs[k].toNat ^^^ t : Nat) : Int)) := Lib.hid (u8_xor_nat _ _ hz ht)
  have hd : Hid (UInt8.ofNat (bs[k].toNat ^^^ t) ≠ bs[k]) := Lib.hid (by have := xor_ne hz ht (by omega); rwa [u8_of] at this)
  have hxl : bs[k].toNat ^^^ t < 256 := Nat.xor_lt_two_pow (n := 8) hz ht
  clear hx hn
  have g1 : decide ((k : Int) < 0) = false := decide_eq_false (by omega)
  have g2 : decide (bs.length ≤ k) = false := decide_eq_false (by omega)
  have g3 : ((t : Int) == 0) = false := by simp; omega
  have g4 : decide (5000 < (bs.length : Int)) = false := decide_eq_false (by omega)
  go_enter Try.func6, Try.ntmps6
  go_wp2_with fail
  refine (names_any w).mono ?_
  rintro e w0 ⟨rfl, hb0⟩
  have hb0 := Lib.hid hb0
  have hx2 := Lib.hid (Reads.below hx1.out hb0.out)
  go_wp2_with (at_builtin; refine wpList_copy rfl (.tmp 27) (.tmp 28) 24 rfl 5 i0 (.int .u8 0) 1 Try.underlying24 hi hz0 hz1 hz2 rfl w0 rfl ao bs.length cap (bytesV bs) rfl hn1.out la.out hx2.out oa.out (by omega) (by omega) ?_; intro a1 c1 w1 ho1 hcc hcm hcn hb1; obtain ⟨g, gc, hv, hg0, hg1, _, _⟩ := ho1.open (by rw [bytesV_length]; omega); rw [bytesV_length] at hv; injection hv with hv1 hv2 hv3; subst hv1; subst hv3; clear hcn; have hc : w1.cell? ⟨g, k, none⟩ = some (.int .u8 (bs[k].toNat : Int)) := (by rw [ho1.cell (j := k) (by rw [bytesV_length]; exact hk)]; simp [bytesV, byteV]); have hfr := ho1.frozen k; have ho1 := Lib.hid ho1; have hb1 := Lib.hid hb1)
  rw [hm.out]
  obtain ⟨y, hy⟩ : ∃ y : UInt8, Hid (y = UInt8.ofNat (bs[k].toNat ^^^ t)) := ⟨_, Lib.hid rfl⟩
  have ev : Value.int .u8 ((bs[k].toNat ^^^ t : Nat) : Int) = byteV y := byteV_of' hy.out hxl
  rw [ev]
  clear ev hc hfr hm hz0 hz1 hz2 hi hv2
  have hbs := Lib.hid ((hb0.out.trans (hb1.out.mono hb0.out.size)).setCell (p := ⟨g, k, none⟩) (Nat.le_trans hb0.out.size hg0) (byteV y))
  have hr2 : Hid (Bytes (w1.setCell ⟨g, k, none⟩ (byteV y)) (some ⟨g, 0, none⟩) (bs.set k y)) := Lib.hid (by
    have h := (ho1.out.set k (byteV y)).reads
    rw [bytesV_set] at h
    exact h)
  have hl2 : (bs.set k y).length = bs.length := List.length_set
  have hr3 := Lib.hid (Reads.below hx1.out hbs.out)
  have hne : Hid (crcMore 0 (bs.set k y) ≠ crcMore 0 bs) := Lib.hid (crcMore_set hk (by rw [hy.out]; exact hd.out))
  rw [← hl2]
  refine (Of_any (some ⟨g, 0, none⟩) (bs.set k y) c1 _ hr2.out (by omega)).mono ?_
  rw [hl2]
  have hl3 := Lib.hid hl2
  clear hl2
  rintro e w3 ⟨rfl, rfl⟩
  go_wp2_with fail
  refine (Of_any ao bs cap _ hr3.out (by omega)).mono ?_
  rintro e w3 ⟨rfl, rfl⟩
  have hf1 : ((crcMore 0 (bs.set k y) : Int) != (crcMore 0 bs : Int)) = true := by
    have := hne.out
    simp only [bne_iff_ne, ne_eq]
    omega
  go_wp2
  go_ret
  exact ⟨by simp, hbs.out⟩
theorem walk (ao : Option Addr) (bs : List UInt8) (cap : Nat) (k : Int) (t : Nat) (w : World) (hx : Bytes w ao bs) (hf : bs.length ≤ cap ∧ cap ≤ 140737488351232) (hn : ao = none → cap = 0) (hI : I64 k) (ht : t < 256) :
    Calls Try.prog 6 #[.slice ao bs.length cap, .int .i64 k, .int .u8 (t : Int)] w fun e w' => e = .returned (.bool true) ∧ Below w.heap.size w w' := by
  by_cases h1 : k < 0
  · exact way_no ao bs cap k t w hI ht (by omega) (.inl h1)
  by_cases h2 : (bs.length : Int) ≤ k
  · exact way_no ao bs cap k t w hI ht (by omega) (.inr (.inl ⟨by omega, h2⟩))
  by_cases h3 : t = 0
  · exact way_no ao bs cap k t w hI ht (by omega) (.inr (.inr (.inl ⟨by omega, by omega, h3⟩)))
  by_cases h4 : 5000 < bs.length
  · exact way_no ao bs cap k t w hI ht (by omega) (.inr (.inr (.inr ⟨by omega, by omega, by omega, h4⟩)))
  obtain ⟨n, rfl⟩ : ∃ n : Nat, k = n := ⟨k.toNat, by omega⟩
  exact way_yes ao bs cap n t w hx hn (by omega) (by omega) ht (by omega)

theorem own : ownKnob Try.prog.godebug = none := by kernel_rfl
theorem laidOut : laidOutB Try.prog = true := by kernel_rfl

set_option maxRecDepth 100000 in
theorem lifted (os : Os) (started : os.Started) (H : Type) (enc : TypeId × Value → H) :
    ReturnsInHanded {} Try.checked os 6 .any (Rows.sumFindsSpec.pre6 enc Try.prog Try.f6 Rows.sumFindsRow.domain false) (Rows.sumFindsSpec.post enc Try.prog Try.f6 false true false false) := by
  refine returnsInHanded_of_change_sized (C := Try.checked) own started (by kernel_rfl) Try.func6
    (ChangeSpec.witness6 (enc := enc) (C := Try.checked) false ⟨#[], #[.slice none 0 0, .int .i64 0, .int .u8 0], []⟩ 8 (by kernel_rfl) (by kernel_rfl) (by kernel_rfl) (by kernel_rfl)) ?_
  intro W base args ds gs before hval0 hW hcnd hsz0 _
  have hval : ∀ (j : Nat) t v, Try.f6.params[j]? = some t → args[j]? = some v → Value.okWide Try.prog W .any base t v := hval0
  have hsz : (DataW.weightsEach Try.prog (Try.f6.params.toList ++ Rows.sumFindsSpec.plain.varTypes Try.prog) (ds ++ gs)).all (· ≤ reachBytes) = true := hsz0
  have hW' := hW
  obtain ⟨p, q, hA0, hV, rfl, hfz, hnd⟩ := hW
  have hA : DataW.TrodAll enc Try.prog W 0 (fun _ => true) true Try.f6.params.toList args.toList ds p := hA0
  rw [Try.params6] at hA hval hsz
  obtain ⟨v0, vs0, d0, ds0, p0, q0, hargs, rfl, rfl, h0, r0⟩ := trodAll_cons hA
  obtain ⟨v1, vs1, d1, ds1, p1, q1, rfl, rfl, rfl, h1, r1⟩ := trodAll_cons r0
  obtain ⟨v2, vs2, d2, ds2, p2, q2, rfl, rfl, rfl, h2, r2⟩ := trodAll_cons r1
  obtain ⟨rfl, rfl, rfl⟩ := trodAll_nil r2
  obtain rfl : args = #[v0, v1, v2] := by cases args; simp_all
  obtain ⟨rfl, rfl⟩ := trodVars_none hV
  have k0 := h0
  have lt0 : ∀ x ∈ p0, x.block < W.heap.size := by obtain ⟨m, hm⟩ := k0; exact DataW.trod_lt m _ _ _ hm
  obtain ⟨ao0, a0, cap0, rfl, sp0, fi0, nl0⟩ := arg_bytes h0 (hval 0 24 v0 rfl rfl) (fun es sp e => sized_slice hsz (j := 0) (t := 24) (e := 5) rfl (by rw [e]; rfl) Try.underlying24)
  obtain ⟨a1, rfl, rfl, rfl, wf1⟩ := open_int Try.underlying3 (hval 1 3 v1 rfl rfl) h1
  obtain ⟨z2, rfl, rfl, rfl, wf2⟩ := open_int Try.underlying5 (hval 2 5 v2 rfl rfl) h2
  obtain ⟨a2, rfl, b2⟩ := nat_u8 wf2
  clear hA0 hval0 hsz0
  refine (walk ao0 a0 cap0 a1 a2 W sp0 fi0 nl0 (wf_i64 wf1) b2).mono fun e W' ⟨he, bel⟩ => ?_
  subst he
  exact ⟨_, rfl, _, _, _, [], _, [], hW', trodAll_mk1 (shut_bool Try.underlying4 _), (trodAll_cons_mk (Below.trod laidOut (by kernel_rfl) (of_decide_eq_true (by kernel_rfl)) k0 bel lt0) (trodAll_cons_mk (shut_int Try.underlying3 wf1) (trodAll_cons_mk (shut_int Try.underlying5 wf2) trodAll_mk0))), rfl, bel.frame _, fun h => by cases h⟩

theorem proved : Rows.SumFindsSaid :=
  OpenClaim.holds_of_wide 6 Try.f6 rfl rfl rfl rfl rfl rfl rfl ⟨rfl, rfl, rfl, rfl, rfl⟩ rfl rfl rfl rfl rfl (by kernel_rfl) Try.func6 (by kernel_rfl)
    (of_decide_eq_true (by kernel_rfl)) (by unfold Func.isWrapper; first | (rw [if_pos (by decide +kernel)]; kernel_rfl) | (rw [if_neg (by decide +kernel)]; exact ⟨rfl, rfl⟩))
    (fun os started H enc _ => lifted os started H enc)
end Go.Proofs.Ytbnfciefllbcdaa.lawSumFinds
