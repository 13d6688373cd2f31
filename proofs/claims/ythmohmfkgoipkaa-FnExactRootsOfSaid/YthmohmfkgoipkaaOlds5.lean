/-
  RootsOf, by the program.
-/
import Derived.Test.YthmohmfkgoipkaaOlds4
namespace Go.Proofs.Ythmohmfkgoipkaa.img
open Go.RowKit
open kinds ints wmath num obj ref later

theorem slotWord_any (w : World) (k : Nat) (hk : k ≤ 8) :
    Calls Try.prog 39 #[.int .i64 (k : Int)] w fun e w' => e = .returned (.int .i64 ((16 + k : Nat) : Int)) ∧ w = w' := by
  go_enter Try.func39, Try.ntmps39
  go_wp2
  go_ret
  exact ⟨by go_num, rfl⟩
set_option maxHeartbeats 1000000 in
set_option maxRecDepth 20000 in
theorem slotsOf_any (w : World) (s : ByteArray) (hs : s.size ≤ 1048576) (h : 192 ≤ s.size) :
    Calls Try.prog 25 #[.string s] w fun e w' => ∃ v, e = .returned v ∧ w'.ownsRow w.heap.size 2 1 v (slotsK s 8).length ((slotsK s 8).map (Value.int .i64)) ∧ Below w.heap.size w w' := by
  have HWD : Hid (∀ (w : World) (p : Nat), p < 24 → Calls _ _ _ w _) := fun w p hp => wordAt_any w s p hs (by omega)
  have HSW : Hid (∀ (w : World) (k : Nat), k ≤ 8 → Calls _ _ _ w _) := fun w k hk => slotWord_any w k hk
  have HL8 : Hid ((slotsK s 8).length = 8) := slotsK_len s 8
  go_enter Try.func25, Try.ntmps25
  go_wp2
  go_loopw [3, 5] (fun v i wr => ∃ k : Nat, k ≤ 8 ∧ i = .int .i64 (k : Int) ∧ wr.ownsRow w.heap.size 2 1 v (slotsK s k).length ((slotsK s k).map (Value.int .i64)) ∧ Below w.heap.size w wr) (fun _ i _ => 8 - (intOf i).toNat)
  case atStart => exact ⟨0, Nat.zero_le _, rfl, ⟨rfl, .inl ⟨rfl, rfl⟩⟩, Below.refl _ _⟩
  case round =>
    obtain ⟨k, hk, rfl, hown, hb⟩ := hrel
    have HO : Hid (wr.ownsRow w.heap.size 2 1 u3 (slotsK s k).length ((slotsK s k).map (Value.int .i64))) := hown
    have HB : Hid (Below w.heap.size w wr) := hb
    clear hown hb
    by_cases hlt : k < 8
    · have hlti : (k : Int) < 8 := by omega
      have HC1 : Hid (∀ w, Calls _ _ _ w _) := fun w => HSW.out w k hk
      have HC2 : Hid (∀ w, Calls _ _ _ w _) := fun w => HWD.out w (16 + k) (by omega)
      have HS : Hid (slotsK s (k + 1) = slotsK s k ++ [wAt s (8 * (16 + k))]) := slotsK_succ s k
      have HLK : Hid ((slotsK s k).length ≤ 1048576) := by show (slotsK s k).length ≤ _; rw [slotsK_len]; omega
      generalize wAt s (8 * (16 + k)) = x at HC2 HS
      generalize slotsK s k = L at HO HS HLK
      generalize ((16 + k : Nat) : Int) = pl at HC1 HC2
      go_wp2_with fail
      refine (HC1.out _).mono ?_
      rintro e w3 ⟨rfl, rfl⟩
      go_wp2_with fail
      refine (HC2.out _).mono ?_
      rintro e w4 ⟨rfl, rfl⟩
      go_wp2_with (refine wpList_push wr (by rfl) _ _ (by rfl) w.heap.size u3 L x HO.out (by rfl) (by rfl) HLK.out HB.out.size ?_; intro g2 c2 w6 hown6 hb6 hB6; have HO6 : Hid (_) := hown6; have HB6 : Hid (Below w.heap.size w w6) := HB.out.trans hb6; clear hown6 hb6 hB6)
      go_roundw
      case rel => exact ⟨k + 1, by omega, by go_num, by rw [HS.out]; exact HO6.out, HB6.out⟩
      case measure => simp [intOf]; omega
    · obtain rfl : k = 8 := by omega
      have hlti : ¬ (8 : Int) < 8 := by omega
      go_wp2
      go_ret
      exact ⟨_, rfl, HO.out, HB.out⟩
set_option maxHeartbeats 1000000 in
set_option maxRecDepth 20000 in
theorem impl_roots (w : World) (n1 n2 n3 : Int) (a : Option Addr) (cap : Nat) (xs : List ByteArray) (s : ByteArray) (hs : s.size ≤ 1048576) (hn : xs.length ≤ 1048576) (hl : Strs w a xs) (hz : ∀ i (hi : i < xs.length), xs[i].size ≤ 1048576) :
    Calls Try.prog 8 #[.agg #[.int .i64 n1, .int .i64 n2, .int .i64 n3, .slice a xs.length cap], .string s] w fun e w' => ∃ v, e = .returned (.tuple #[v, .bool (rootsB n1 n2 n3 xs s)]) ∧ w'.ownsRow w.heap.size 2 1 v (rootsV n1 n2 n3 xs s).length ((rootsV n1 n2 n3 xs s).map (Value.int .i64)) ∧ Below w.heap.size w w' := by
  obtain ⟨W, hW⟩ : ∃ W, W = w.alloc (.cells #[.int .i64 n1, .int .i64 n2, .int .i64 n3, .slice a xs.length cap] 29) := ⟨_, rfl⟩
  have hb0 : Below w.heap.size w W := by rw [hW]; exact (Below.refl _ _).alloc (Nat.le_refl _) _
  have HW : Hid (W = w.alloc (.cells #[.int .i64 n1, .int .i64 n2, .int .i64 n3, .slice a xs.length cap] 29)) := hW
  have HB0 : Hid (Below w.heap.size w W) := hb0
  have HON : Hid (imageB n1 n2 n3 xs s = false → Calls _ _ _ W _) := fun h => opened_no W n1 n2 n3 a cap xs s hs hn (hl.below hb0) hz h
  have HOY : Hid (imageB n1 n2 n3 xs s = true → Calls _ _ _ W _) := fun h => opened_yes W n1 n2 n3 a cap xs s hs hn (hl.below hb0) hz h
  have HIB : Hid (imageB n1 n2 n3 xs s = true → 512 ≤ s.size ∧ 8 ≤ n1 ∧ n1 ≤ 128) := fun h => by
    unfold imageB at h
    rw [Bool.and_eq_true] at h
    have h1 := conf_lines h.1
    have h2 := of_decide_eq_true h.2
    omega
  have HRB : Hid (rootsB n1 n2 n3 xs s = (imageB n1 n2 n3 xs s && allOld n1 n2 (slotsK s 8) 8)) := rfl
  have HRV : Hid (rootsV n1 n2 n3 xs s = if rootsB n1 n2 n3 xs s = true then slotsK s 8 else []) := rfl
  have HNO : Hid (∀ {w' : World} {e : Ending}, rootsB n1 n2 n3 xs s = false → e = .returned (.tuple #[.slice none 0 0, .bool false]) → Below w.heap.size w w' → ∃ v, e = .returned (.tuple #[v, .bool (rootsB n1 n2 n3 xs s)]) ∧ w'.ownsRow w.heap.size 2 1 v (rootsV n1 n2 n3 xs s).length ((rootsV n1 n2 n3 xs s).map (Value.int .i64)) ∧ Below w.heap.size w w') := fun hf he hb => by
    refine ⟨.slice none 0 0, by rw [hf]; exact he, ?_, hb⟩
    unfold rootsV
    rw [hf, if_neg (by decide)]
    exact ⟨rfl, .inl ⟨rfl, rfl⟩⟩
  clear hW hb0 hl hz
  cases hi : imageB n1 n2 n3 xs s with
  | false =>
    rw [hi] at HRB
    have HF : Hid (rootsB n1 n2 n3 xs s = false) := HRB.out
    have HC : Hid (Calls _ _ _ W _) := HON.out hi
    clear hi HRB HRV HIB HON HOY
    go_enter Try.func8, Try.ntmps8
    go_wp2_with fail
    rw [← HW.out]
    refine HC.out.mono ?_
    rintro e w2 ⟨rfl, hb2⟩
    have HB2 : Hid (Below w.heap.size w w2) := HB0.out.trans (hb2.mono HB0.out.size)
    clear hb2
    obtain ⟨X, hX⟩ : ∃ X, X = w2.alloc (.cells #[.int .i64 0, .int .i64 0, .int .i64 0, .slice none 0 0, .string ⟨#[]⟩, .int .i64 0] 49) := ⟨_, rfl⟩
    have HX : Hid (X = w2.alloc (.cells #[.int .i64 0, .int .i64 0, .int .i64 0, .slice none 0 0, .string ⟨#[]⟩, .int .i64 0] 49)) := hX
    have HBX : Hid (Below w.heap.size w X) := by rw [hX]; exact HB2.out.alloc HB2.out.size _
    clear hX
    go_wp2
    go_ret2
    rw [← HX.out]
    exact HNO.out HF.out rfl HBX.out
  | true =>
    rw [hi] at HRB
    obtain ⟨h512, h1, h2⟩ := HIB.out hi
    have HC : Hid (Calls _ _ _ W _) := HOY.out hi
    have HSO : Hid (∀ w, Calls _ _ _ w _) := fun w => slotsOf_any w s hs (by omega)
    have HAN : Hid (∀ (w : World) (b : Option Addr) (cb : Nat), Nums w b (slotsK s 8) → Calls _ _ _ w _) := fun w b cb q => allNamed_any w n1 n2 n3 a xs.length cap s b cb (slotsK s 8) h1 h2 (by rw [slotsK_len]; omega) q (slotsK_lt s 8)
    have HL8 : Hid ((slotsK s 8).length = 8) := slotsK_len s 8
    rw [HL8.out] at HAN
    clear hi HIB HON HOY h512 h1 h2
    go_enter Try.func8, Try.ntmps8
    go_wp2_with fail
    rw [← HW.out]
    refine HC.out.mono ?_
    rintro e w2 ⟨rfl, hb2⟩
    generalize 4 + n2 = f at HAN ⊢
    have HB2 : Hid (Below w.heap.size w w2) := HB0.out.trans (hb2.mono HB0.out.size)
    clear hb2
    obtain ⟨X, hX⟩ : ∃ X, X = w2.alloc (.cells #[.int .i64 n1, .int .i64 n2, .int .i64 n3, .slice a xs.length cap, .string s, .int .i64 f] 49) := ⟨_, rfl⟩
    have HX : Hid (X = w2.alloc (.cells #[.int .i64 n1, .int .i64 n2, .int .i64 n3, .slice a xs.length cap, .string s, .int .i64 f] 49)) := hX
    have HBX : Hid (Below w.heap.size w X) := by rw [hX]; exact HB2.out.alloc HB2.out.size _
    have hbx : Box6 w2.heap.size n1 n2 n3 (.slice a xs.length cap) (.string s) (.int .i64 f) X := by rw [hX]; exact Box6.start _ _ _ _ _ _ _ _
    have HK : Hid (∀ w', Below X.heap.size X w' → Box6 w2.heap.size n1 n2 n3 (.slice a xs.length cap) (.string s) (.int .i64 f) w') := fun w' h => hbx.below h
    have hXs : w.heap.size ≤ X.heap.size := HBX.out.size
    have HXS : Hid (w.heap.size ≤ X.heap.size) := hXs
    clear hX hbx hXs
    go_wp2_with fail
    rw [← HX.out]
    refine (HSO.out _).mono ?_
    rintro e wr ⟨v, rfl, hown, hbr⟩
    have HB : Hid (Below X.heap.size X wr) := hbr
    have HO : Hid (wr.ownsRow X.heap.size 2 1 v (slotsK s 8).length ((slotsK s 8).map (Value.int .i64))) := hown
    obtain ⟨m0, m1, m2, m3, m4, m5⟩ := HK.out wr HB.out
    obtain ⟨aB, gB, cB, rfl, hlo, hin⟩ := ints_of_row hown
    have HA2 : Hid (∀ w', w' = wr → Calls _ _ _ w' _) := fun w' q => HAN.out w' aB cB (q ▸ hin.nums)
    clear hbr hown
    rw [HL8.out]
    clear hlo hin
    cases hr : allOld n1 n2 (slotsK s 8) 8 with
    | false =>
      rw [hr] at HA2 HRB
      have HF : Hid (rootsB n1 n2 n3 xs s = false) := HRB.out
      clear hr HRB HRV
      go_wp2_with fail
      refine (HA2.out wr rfl).mono ?_
      rintro e w5 ⟨rfl, hb5⟩
      have HB5 : Hid (Below X.heap.size X w5) := HB.out.trans (hb5.mono HB.out.size)
      clear hb5 m0 m1 m2 m3 m4 m5
      go_wp2
      go_ret2
      exact HNO.out HF.out rfl (HBX.out.trans (HB5.out.mono HXS.out))
    | true =>
      rw [hr] at HA2 HRB
      have HF : Hid (rootsB n1 n2 n3 xs s = true) := HRB.out
      clear hr HRB HNO
      go_wp2_with fail
      refine (HA2.out wr rfl).mono ?_
      rintro e w5 ⟨rfl, hb5⟩
      have HB5 : Hid (Below X.heap.size X w5) := HB.out.trans (hb5.mono HB.out.size)
      have HO5 : Hid (w5.ownsRow w.heap.size 2 1 (.slice aB 8 cB) (slotsK s 8).length ((slotsK s 8).map (Value.int .i64))) := by
        have h1 := own_mono (own_below HO.out hb5) HXS.out
        rw [HL8.out] at h1 ⊢
        exact h1
      clear hb5 m0 m1 m2 m3 m4 m5
      go_wp2
      go_ret2
      refine ⟨.slice aB 8 cB, by rw [HF.out]; rfl, ?_, HBX.out.trans (HB5.out.mono HXS.out)⟩
      rw [HRV.out, HF.out, if_pos rfl]
      exact HO5.out
end Go.Proofs.Ythmohmfkgoipkaa.img
