/- A device: Write, whatever is written; a device as an object. -/
import Derived.Test.YtfpacnokecfhmaaVdevE
namespace Go.Proofs.Ytfpacnokecfhmaa
open Go.ChangeShapes Go.WideShapes Go.ChangeAt Go.RowKit
set_option linter.unusedVariables false

/-- a device behind a call -/
def DevStep (w : World) (L : DevL) (m' : DevM) (w' : World) : Prop :=
  ∃ pv', DevAt w' { L with pv := pv' } m' ∧ Kept L.foot w w' ∧ (pv'.ownBlock = L.pv.ownBlock ∨ pv'.ownBlock = none ∨ ∃ g, pv'.ownBlock = some g ∧ w.heap.size ≤ g)
theorem DevStep.of {w w' : World} {L : DevL} {m' : DevM} {F : Nat → Prop} (h : DevAt w' L m') (k : Kept F w w') (hF : ∀ i, F i → L.foot i) : DevStep w L m' w' :=
  ⟨L.pv, h, k.mono fun i _ => hF i, .inl rfl⟩

set_option maxHeartbeats 1000000 in
theorem Write_no (L : DevL) (m : DevM) (i : Int) (hi : I64 i) (s : Sec) (w : World) (h : DevAt w L m) (hh : m.has i = false) :
    Calls Try.prog 15 #[.pointer (some ⟨L.d, 0, none⟩), .int .i64 i, .agg (secL s).toArray] w fun e w' => e = .returned (.int .i64 41) ∧ DevStep w L m.tick w' := by
  have hh' : m.tick.has i = false := hh
  have h := Lib.hid h
  go_enter Try.func15, Try.ntmps15
  go_wp2_with (first
    | ((with_reducible refine (count_any L m _ (h.out.alloc _)).mono ?_)
       rintro e w1 ⟨rfl, h1, k1, z1⟩
       have h1 := Lib.hid h1
       have k1 := Lib.hid k1)
    | ((with_reducible refine (has_any L m.tick _ _ h1.out hi).mono ?_); rintro e w' ⟨rfl, rfl⟩; rw [hh']))
  go_ret
  exact ⟨rfl, DevStep.of h1.out ((Kept.of_alloc _ w _).trans k1.out) (fun i e => .inl e)⟩

set_option maxHeartbeats 1000000 in
theorem Write_off (L : DevL) (m : DevM) (i : Nat) (s : Sec) (w : World) (h : DevAt w L m) (hi : i < m.stable.length) (hla : m.lasts = false) :
    Calls Try.prog 15 #[.pointer (some ⟨L.d, 0, none⟩), .int .i64 (i : Int), .agg (secL s).toArray] w fun e w' => e = .returned (.int .i64 42) ∧ DevStep w L m.tick.spend w' := by
  have hl := h.fits.len
  have hh : m.tick.has (i : Int) = true := by simp [DevM.has, DevM.tick]; omega
  have hla' : m.tick.lasts = false := hla
  have h := Lib.hid h
  go_enter Try.func15, Try.ntmps15
  go_wp2_with (first
    | ((with_reducible refine (count_any L m _ (h.out.alloc _)).mono ?_)
       rintro e w1 ⟨rfl, h1, k1, z1⟩
       have h1 := Lib.hid h1
       have k1 := Lib.hid k1)
    | ((with_reducible refine (has_any L m.tick _ _ h1.out (by unfold I64; omega)).mono ?_); rintro e w' ⟨rfl, rfl⟩; rw [hh])
    | ((with_reducible refine (lasts_any L m.tick _ h1.out).mono ?_)
       rintro e w2 ⟨rfl, h2, k2, z2⟩
       rw [hla']
       have h2 := Lib.hid h2
       have k2 := Lib.hid k2))
  go_ret
  exact ⟨rfl, DevStep.of h2.out (((Kept.of_alloc _ w _).trans k1.out).trans k2.out) (fun i e => .inl e)⟩

theorem Write_any (L : DevL) (m : DevM) (i : Int) (hi : I64 i) (s : Sec) (w : World) (h : DevAt w L m) (hp : m.pending.length ≤ 1000000000) :
    Calls Try.prog 15 #[.pointer (some ⟨L.d, 0, none⟩), .int .i64 i, .agg (secL s).toArray] w fun e w' => e = .returned (.int .i64 (m.write i s).2) ∧ DevStep w L (m.write i s).1 w' := by
  cases hh : m.has i
  · refine (Write_no L m i hi s w h hh).mono ?_
    rintro e w' ⟨rfl, hs⟩
    exact ⟨by simp [DevM.write, hh], by simpa [DevM.write, hh] using hs⟩
  · obtain ⟨k, rfl, hk⟩ := has_nat hh
    cases hla : m.lasts
    · refine (Write_off L m k s w h hk hla).mono ?_
      rintro e w' ⟨rfl, hs⟩
      exact ⟨by simp [DevM.write, hh, hla], by simpa [DevM.write, hh, hla] using hs⟩
    · refine (Write_ok L m _ k s w h hk hla (Lib.hid rfl) hp).mono ?_
      rintro e w' ⟨rfl, pv', h1, h2, h3⟩
      have e1 : m.tick.spend.pending = m.pending := DevM.spend_pending _
      rw [e1] at h1
      refine ⟨by simp [DevM.write, hh, hla], pv', by simpa [DevM.write, hh, hla] using h1, h2, ?_⟩
      rcases h3 with h3 | h3
      · exact .inl h3
      · exact .inr (.inr h3)

section
variable {w w' : World} {d : Nat} {F : Nat → Prop} {m m' : DevM}
/-- behind a call on an object: it is there, and only it has turned -/
def Turned (w : World) (d : Nat) (F : Nat → Prop) (m' : DevM) (w' : World) : Prop := ∃ F', IsDev w' d F' m' ∧ Kept F w w' ∧ Grows w.heap.size F F'
theorem DevStep.turned {L : DevL} (h : DevStep w L m' w') (hF : ∀ k, L.foot k → F k) : Turned w L.d F m' w' := by
  obtain ⟨pv', h1, h2, h3⟩ := h
  refine ⟨DevL.foot { L with pv := pv' }, ⟨{ L with pv := pv' }, rfl, h1, fun _ => id, h1.lt⟩, h2.mono fun i _ => hF i, ?_⟩
  rintro k (rfl | rfl | rfl | e)
  · exact .inl (hF _ (.inl rfl))
  · exact .inl (hF _ (.inr (.inl rfl)))
  · exact .inl (hF _ (.inr (.inr (.inl rfl))))
  · rcases h3 with h3 | h3 | ⟨g, h3, hg⟩
    · exact .inl (hF _ (.inr (.inr (.inr (h3 ▸ e)))))
    · rw [h3] at e; cases e
    · rw [h3] at e; cases e; exact .inr hg
theorem IsDev.kept {G : Nat → Prop} (h : IsDev w d F m) (k : Kept G w w') (hn : ∀ i, F i → ¬ G i) : IsDev w' d F m := by
  obtain ⟨L, e, h1, h2, h3⟩ := h
  exact ⟨L, e, h1.kept k fun i hi => hn i (h2 i hi), h2, fun i hi => Nat.lt_of_lt_of_le (h3 i hi) k.size⟩
theorem IsDev.below (h : IsDev w d F m) (hb : Below w.heap.size w w') : IsDev w' d F m := h.kept (G := fun _ => False) (Kept.of_below hb _) fun _ _ => id
theorem IsDev.alloc (h : IsDev w d F m) (o : Obj) : IsDev (w.alloc o) d F m := h.kept (G := fun _ => False) (Kept.of_alloc _ _ _) fun _ _ => id
theorem IsDev.lt (h : IsDev w d F m) : ∀ k, F k → k < w.heap.size := by obtain ⟨L, _, _, _, h1⟩ := h; exact h1
theorem IsDev.fits (h : IsDev w d F m) : m.Fits := by obtain ⟨L, _, h1, _⟩ := h; exact h1.fits
end
end Go.Proofs.Ytfpacnokecfhmaa
