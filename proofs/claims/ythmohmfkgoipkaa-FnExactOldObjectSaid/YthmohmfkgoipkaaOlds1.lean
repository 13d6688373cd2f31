/-
  References that are nothing or of lines of data, by the specification; the eight words of the roots, and RootsOf, by the specification.
-/
import Derived.Test.YthmohmfkgoipkaaImage
import Derived.Test.YthmohmfkgoipkaaLater
import Derived.Deep.WholeRow
namespace Go.Proofs.Ythmohmfkgoipkaa.img
open Go.RowKit
open kinds ints wmath num obj ref later

/-- The cells of a config in a block of its own. -/
structure Box4 (b : Nat) (n1 n2 n3 : Int) (v : Value) (w : World) : Prop where
  c0 : w.cell? ⟨b, 0, none⟩ = some (.int .i64 n1)
  c1 : w.cell? ⟨b, 1, none⟩ = some (.int .i64 n2)
  c2 : w.cell? ⟨b, 2, none⟩ = some (.int .i64 n3)
  c3 : w.cell? ⟨b, 3, none⟩ = some v
theorem Box4.below {b : Nat} {n1 n2 n3 : Int} {v : Value} {w w' : World} (h : Box4 b n1 n2 n3 v w) (hb : Below w.heap.size w w') : Box4 b n1 n2 n3 v w' :=
  have hl : b < w.heap.size := World.block_lt_of_cell? w _ h.c0
  ⟨by rw [hb.cell (p := ⟨b, 0, none⟩) hl]; exact h.c0, by rw [hb.cell (p := ⟨b, 1, none⟩) hl]; exact h.c1, by rw [hb.cell (p := ⟨b, 2, none⟩) hl]; exact h.c2, by rw [hb.cell (p := ⟨b, 3, none⟩) hl]; exact h.c3⟩
theorem Box4.start (w : World) (n1 n2 n3 : Int) (v : Value) (T : TypeId) : Box4 w.heap.size n1 n2 n3 v (w.alloc (.cells #[.int .i64 n1, .int .i64 n2, .int .i64 n3, v] T)) :=
  ⟨by rw [World.cell?_alloc_new]; rfl, by rw [World.cell?_alloc_new]; rfl, by rw [World.cell?_alloc_new]; rfl, by rw [World.cell?_alloc_new]; rfl⟩
set_option maxHeartbeats 1000000 in
theorem l10Ref_any (w : World) (n1 n2 n3 r : Int) (a : Option Addr) (n cap : Nat) (h1 : 8 ≤ n1) (h2 : n1 ≤ 128) (h3 : 1 ≤ n2) (h4 : n2 ≤ 32) :
    Calls Try.prog 33 #[.agg #[.int .i64 n1, .int .i64 n2, .int .i64 n3, .slice a n cap], .int .i64 r] w fun e w' => e = .returned (.bool (oldB n1 n2 r)) ∧ Below w.heap.size w w' := by
  have HK : Hid (∀ w, Calls _ _ _ w _) := fun w => specRefKind r w
  have HL : Hid (∀ w, Calls _ _ _ w _) := fun w => l10Line_any w n1 n2 (r / 2) (.int .i64 n3) (.slice a n cap) h1 h2 h3 h4
  have HD : Hid (oldB n1 n2 r = if r = 0 then true else if refKind r = 1 then dataB n1 n2 (r / 2) else false) := rfl
  have HKO : Hid (refKind r = 1 → 2 ≤ r ∧ r ≤ 254) := kind_old
  generalize oldB n1 n2 r = res at HD ⊢
  generalize refKind r = k at HK HD HKO
  generalize dataB n1 n2 (r / 2) = d at HL HD
  clear h1 h2 h3 h4
  by_cases h0 : r = 0
  · have he : (r == 0) = true := by simpa using h0
    have HR : Hid (res = true) := by show res = true; rw [HD.out, if_pos h0]
    clear h0 HD
    go_enter Try.func33, Try.ntmps33
    go_wp2
    go_ret
    exact ⟨by rw [HR.out]; rfl, by go_grown⟩
  · have he : (r == 0) = false := by simpa using h0
    by_cases hk : k = 1
    · have hke : (k == 1) = true := by simpa using hk
      have HR : Hid (res = d) := by show res = d; rw [HD.out, if_neg h0, if_pos hk]
      obtain ⟨hr0, hr1⟩ := HKO.out hk
      obtain ⟨q, rfl⟩ := Int.eq_ofNat_of_zero_le (show 0 ≤ r by omega)
      clear h0 HD hk HKO hr0
      have HB0 : Hid (Below w.heap.size w (w.alloc (.cells #[.int .i64 n1, .int .i64 n2, .int .i64 n3, .slice a n cap] 29))) := (Below.refl _ _).alloc (Nat.le_refl _) _
      go_enter Try.func33, Try.ntmps33
      go_wp2_with fail
      refine (HK.out _).mono ?_
      rintro e w1 ⟨rfl, hw⟩
      subst hw
      go_wp2_with fail
      refine (HL.out _).mono ?_
      rintro e w2 ⟨rfl, hb2⟩
      have HB2 : Hid (Below w.heap.size w w2) := HB0.out.trans (hb2.mono HB0.out.size)
      clear hb2
      go_wp2
      go_ret
      exact ⟨by rw [HR.out]; rfl, HB2.out⟩
    · have hke : (k == 1) = false := by simpa using hk
      have HR : Hid (res = false) := by show res = false; rw [HD.out, if_neg h0, if_neg hk]
      clear h0 HD hk HKO
      have HB0 : Hid (Below w.heap.size w (w.alloc (.cells #[.int .i64 n1, .int .i64 n2, .int .i64 n3, .slice a n cap] 29))) := (Below.refl _ _).alloc (Nat.le_refl _) _
      go_enter Try.func33, Try.ntmps33
      go_wp2_with fail
      refine (HK.out _).mono ?_
      rintro e w1 ⟨rfl, hw⟩
      subst hw
      go_wp2
      go_ret
      exact ⟨by rw [HR.out]; rfl, HB0.out⟩
set_option maxHeartbeats 1000000 in
theorem l10Refs_any (w : World) (n1 n2 n3 : Int) (a : Option Addr) (n cap : Nat) (b : Option Addr) (cb : Nat) (rs : List Int) (h1 : 8 ≤ n1) (h2 : n1 ≤ 128) (h3 : 1 ≤ n2) (h4 : n2 ≤ 32) (hn : rs.length ≤ 1048576) (hl : Nums w b rs) :
    Calls Try.prog 21 #[.agg #[.int .i64 n1, .int .i64 n2, .int .i64 n3, .slice a n cap], .slice b rs.length cb] w fun e w' => e = .returned (.bool (allOld n1 n2 rs rs.length)) ∧ Below w.heap.size w w' := by
  obtain ⟨W, hW⟩ : ∃ W, W = w.alloc (.cells #[.int .i64 n1, .int .i64 n2, .int .i64 n3, .slice a n cap] 29) := ⟨_, rfl⟩
  have hb0 : Below w.heap.size w W := by rw [hW]; exact (Below.refl _ _).alloc (Nat.le_refl _) _
  have hbx : Box4 w.heap.size n1 n2 n3 (.slice a n cap) W := by rw [hW]; exact Box4.start _ _ _ _ _ _
  have HK : Hid (∀ w', Below W.heap.size W w' → Box4 w.heap.size n1 n2 n3 (.slice a n cap) w') := fun w' h => hbx.below h
  have HW : Hid (W = w.alloc (.cells #[.int .i64 n1, .int .i64 n2, .int .i64 n3, .slice a n cap] 29)) := hW
  have HN : Hid (∀ w', Below W.heap.size W w' → Nums w' b rs) := fun w' h => (hl.below hb0).below h
  have HEnd : Hid (∀ w', Below W.heap.size W w' → Below w.heap.size w w') := fun w' h => hb0.trans (h.mono hb0.size)
  have HRF : Hid (∀ (w : World) (r : Int), Calls _ _ _ w _) := fun w r => l10Ref_any w n1 n2 n3 r a n cap h1 h2 h3 h4
  obtain ⟨res, hres⟩ : ∃ r, r = allOld n1 n2 rs rs.length := ⟨_, rfl⟩
  rw [← hres]
  have HMS : Hid (res = allOld n1 n2 rs rs.length) := hres
  clear hres hl hW hb0 hbx h1 h2 h3 h4
  go_enter Try.func21, Try.ntmps21
  go_wp2
  rw [← HW.out]
  go_loopw [5] (fun i wr => ∃ k : Nat, k ≤ rs.length ∧ i = .int .i64 (k : Int) ∧ allOld n1 n2 rs k = true ∧ Below W.heap.size W wr) (fun i _ => rs.length - (intOf i).toNat)
  case atStart => exact ⟨0, Nat.zero_le _, rfl, rfl, Below.refl _ _⟩
  case round =>
    obtain ⟨k, hk, rfl, hok, hb⟩ := hrel
    have HB : Hid (Below W.heap.size W wr) := hb
    have HOK : Hid (allOld n1 n2 rs k = true) := hok
    clear hb hok
    by_cases hlt : k < rs.length
    · have hlti : (k : Int) < (rs.length : Int) := by omega
      have hk0 : (0 : Int) ≤ (k : Int) := by omega
      obtain ⟨b2, off, rfl, c0⟩ := HN.out wr HB.out k hlt
      rw [getD_intI2 rs k hlt] at c0
      have HST : Hid (allOld n1 n2 rs (k + 1) = oldB n1 n2 (rs.getD k 0)) := by
        show allOld n1 n2 rs (k + 1) = _
        rw [allOld, HOK.out]; rfl
      have HLE : Hid (allOld n1 n2 rs (k + 1) = false → allOld n1 n2 rs rs.length = false) := allOld_le n1 n2 rs (k + 1) rs.length (by omega)
      generalize rs.getD k 0 = r at c0 HST
      have HR2 : Hid (∀ (w : World), Calls _ _ _ w _) := fun w => HRF.out w r
      have hbx := HK.out wr HB.out
      have X0 := fun n : Later wr => Later.cell hbx.c0 n
      have X1 := fun n : Later wr => Later.cell hbx.c1 n
      have X2 := fun n : Later wr => Later.cell hbx.c2 n
      have X3 := fun n : Later wr => Later.cell hbx.c3 n
      have Y0 := fun n : Later wr => Later.cell c0 n
      have hne := some_later wr
      have HCV : Hid (∀ (n : Later wr), _) := fun n => HR2.out n.world
      cases hin : oldB n1 n2 r with
      | false =>
        rw [hin] at HCV HST
        have HNO : Hid (res = false) := by
          show res = false
          rw [HMS.out, HLE.out HST.out]
        clear hin hbx c0 HR2
        go_wp2
        refine region_later (by kernel_rfl) (by kernel_rfl) ?_
        repeat (go_big_quiet_step (first | (go_at_call 33; exact later_of (HCV.out _))))
        refine wpQuiet_nil ?_
        intro w' hw'
        obtain ⟨nn, rfl⟩ := hw'
        have HB4 : Hid (Below W.heap.size W nn.world) := HB.out.trans (nn.below.mono HB.out.size)
        generalize nn.world = w4 at HB4 ⊢
        clear X0 X1 X2 X3 Y0
        go_wp2
        go_ret
        exact ⟨by rw [HNO.out]; rfl, HEnd.out _ HB4.out⟩
      | true =>
        rw [hin] at HCV HST
        clear hin hbx c0 HR2
        go_wp2
        refine region_later (by kernel_rfl) (by kernel_rfl) ?_
        repeat (go_big_quiet_step (first | (go_at_call 33; exact later_of (HCV.out _))))
        refine wpQuiet_nil ?_
        intro w' hw'
        obtain ⟨nn, rfl⟩ := hw'
        have HB4 : Hid (Below W.heap.size W nn.world) := HB.out.trans (nn.below.mono HB.out.size)
        generalize nn.world = w4 at HB4 ⊢
        clear X0 X1 X2 X3 Y0
        go_wp2
        go_roundw
        case rel => exact ⟨k + 1, by omega, by go_num, HST.out, HB4.out⟩
        case measure => simp [intOf]; omega
    · have hk2 : k = rs.length := by omega
      subst hk2
      have HRES : Hid (res = true) := by
        show res = true
        rw [HMS.out, HOK.out]
      go_wp2
      go_ret
      exact ⟨by rw [HRES.out]; rfl, HEnd.out _ HB.out⟩
/-- The first k of the roots' words. -/
def slotsK (s : ByteArray) (k : Nat) : List Int := (List.range k).map fun i => wAt s (8 * (16 + i))
theorem slotsK_len (s : ByteArray) (k : Nat) : (slotsK s k).length = k := by simp [slotsK]
theorem slotsK_succ (s : ByteArray) (k : Nat) : slotsK s (k + 1) = slotsK s k ++ [wAt s (8 * (16 + k))] := by simp [slotsK, List.range_succ]
theorem slotsK_lt (s : ByteArray) (k : Nat) : ∀ x ∈ slotsK s k, x < 9223372036854775808 := fun x hx => by
  unfold slotsK at hx
  obtain ⟨i, _, rfl⟩ := List.mem_map.1 hx
  exact wAt_lt _ _
set_option maxHeartbeats 1000000 in
set_option maxRecDepth 20000 in
theorem l10Slots_any (w : World) (s : ByteArray) (hs : s.size ≤ 1048576) (h : 192 ≤ s.size) :
    Calls Try.prog 22 #[.string s] w fun e w' => ∃ v, e = .returned v ∧ w'.ownsRow w.heap.size 2 1 v (slotsK s 8).length ((slotsK s 8).map (Value.int .i64)) ∧ Below w.heap.size w w' := by
  obtain ⟨X, hX⟩ : ∃ X, X = w.alloc (.cells #[] 2) := ⟨_, rfl⟩
  have HX : Hid (X = w.alloc (.cells #[] 2)) := hX
  have HBX : Hid (Below w.heap.size w X) := by rw [hX]; exact (Below.refl _ _).alloc (Nat.le_refl _) _
  have HO0 : Hid (X.ownsRow w.heap.size 2 1 (.slice (some ⟨w.heap.size, 0, none⟩) 0 0) (slotsK s 0).length ((slotsK s 0).map (Value.int .i64))) := ⟨rfl, .inr ⟨w.heap.size, 0, #[], rfl, Nat.le_refl _, by rw [hX]; exact heap_alloc_last w _, Nat.le_refl _, Nat.zero_le _, rfl, rfl⟩⟩
  have HWD : Hid (∀ (w : World) (p : Nat), p < 24 → Calls _ _ _ w _) := fun w p hp => l9Word_any w s p hs (by omega)
  clear hX
  go_enter Try.func22, Try.ntmps22
  go_wp2
  rw [← HX.out]
  go_loopw [3, 4] (fun v i wr => ∃ k : Nat, k ≤ 8 ∧ i = .int .i64 (k : Int) ∧ wr.ownsRow w.heap.size 2 1 v (slotsK s k).length ((slotsK s k).map (Value.int .i64)) ∧ Below w.heap.size w wr) (fun _ i _ => 8 - (intOf i).toNat)
  case atStart => exact ⟨0, Nat.zero_le _, rfl, HO0.out, HBX.out⟩
  case round =>
    obtain ⟨k, hk, rfl, hown, hb⟩ := hrel
    have HO : Hid (wr.ownsRow w.heap.size 2 1 u3 (slotsK s k).length ((slotsK s k).map (Value.int .i64))) := hown
    have HB : Hid (Below w.heap.size w wr) := hb
    clear hown hb
    by_cases hlt : k < 8
    · have hlti : (k : Int) < 8 := by omega
      have HC : Hid (∀ w, Calls _ _ _ w _) := fun w => HWD.out w (16 + k) (by omega)
      have HS : Hid (slotsK s (k + 1) = slotsK s k ++ [wAt s (8 * (16 + k))]) := slotsK_succ s k
      have HLK : Hid ((slotsK s k).length ≤ 1048576) := by show (slotsK s k).length ≤ _; rw [slotsK_len]; omega
      have hcast : ((16 + k : Nat) : Int) = 16 + (k : Int) := by omega
      rw [hcast] at HC
      clear hcast
      generalize wAt s (8 * (16 + k)) = x at HC HS
      generalize slotsK s k = L at HO HS HLK
      go_wp2_with fail
      refine (HC.out _).mono ?_
      rintro e w4 ⟨rfl, rfl⟩
      go_wp2_with (refine wpList_push wr (by rfl) _ _ (by rfl) w.heap.size u3 L x HO.out (by rfl) (by rfl) HLK.out HB.out.size ?_; intro g2 c2 w6 hown6 hb6 hB6; have HO6 : Hid (_) := hown6; have HB6 : Hid (Below w.heap.size w w6) := HB.out.trans hb6; clear hown6 hb6 hB6)
      go_roundw
      case rel => exact ⟨k + 1, by omega, by go_num, by rw [HS.out]; exact HO6.out, HB6.out⟩
      case measure => simp [intOf]; omega
    · obtain rfl : k = 8 := by omega
      go_wp2
      go_ret
      exact ⟨u3, rfl, HO.out, HB.out⟩
def rootsB (n1 n2 n3 : Int) (xs : List ByteArray) (s : ByteArray) : Bool := imageB n1 n2 n3 xs s && allOld n1 n2 (slotsK s 8) 8
def rootsV (n1 n2 n3 : Int) (xs : List ByteArray) (s : ByteArray) : List Int := if rootsB n1 n2 n3 xs s = true then slotsK s 8 else []
end Go.Proofs.Ythmohmfkgoipkaa.img
