/-
  The place at which a number first stands in a list, by the specification; the lines of a set, by the specification.
-/
import Derived.Test.YtihfenpeahhfdaaSetOk
import Derived.Deep.WholeRow
namespace Go.Proofs.Ytihfenpeahhfdaa.ints
open Go.RowKit inr

/-- The first place among the first k, or -1. -/
def seekI (r : Int) (l : List Int) : Nat → Int
  | 0 => -1
  | k + 1 => if 0 ≤ seekI r l k then seekI r l k else if l.getD k 0 = r then (k : Int) else -1
theorem seekI_in (r : Int) (l : List Int) (k : Nat) : seekI r l k = -1 ∨ (0 ≤ seekI r l k ∧ seekI r l k < (k : Int)) := by
  induction k with
  | zero => left; rfl
  | succ k ih =>
    rw [seekI]
    split
    · right; omega
    · split
      · right; omega
      · left; rfl
theorem seekI_keep (r : Int) (l : List Int) (k n : Nat) (h : k ≤ n) (hs : 0 ≤ seekI r l k) : seekI r l n = seekI r l k := by
  induction n with
  | zero => rw [show k = 0 by omega]
  | succ n ih =>
    by_cases e : k = n + 1
    · rw [e]
    · rw [seekI, ih (by omega), if_pos hs]
theorem place_any (w : World) (a : Option Addr) (n cap : Nat) (fr : List Int) (r : Int) (hx : fr.length = n) (hn : n ≤ 1048576) (hl : Nums w a fr) :
    Calls Try.prog 52 #[.slice a n cap, .int .i64 r] w fun e w' => e = .returned (.int .i64 (seekI r fr n)) ∧ w = w' := by
  subst hx
  have HN : Hid (Nums w a fr) := hl
  obtain ⟨res, hres⟩ : ∃ x, x = seekI r fr fr.length := ⟨_, rfl⟩
  rw [← hres]
  have HR : Hid (res = seekI r fr fr.length) := hres
  clear hl hres
  go_enter Try.func52, Try.ntmps52
  go_wp2
  go_loopw [5] (fun i wr => ∃ k : Nat, k ≤ fr.length ∧ i = .int .i64 (k : Int) ∧ seekI r fr k = -1 ∧ w = wr) (fun i _ => fr.length - (intOf i).toNat)
  case atStart => exact ⟨0, Nat.zero_le _, rfl, rfl, rfl⟩
  case round =>
    obtain ⟨k, hk, rfl, hok, rfl⟩ := hrel
    have HOK : Hid (seekI r fr k = -1) := hok
    clear hok
    by_cases hlt : k < fr.length
    · have hlti : (k : Int) < (fr.length : Int) := by omega
      have hk0 : (0 : Int) ≤ (k : Int) := by omega
      obtain ⟨b, off, rfl, c0⟩ := HN.out k hlt
      rw [getD_intI fr k hlt] at c0
      have HS : Hid (seekI r fr (k + 1) = if fr.getD k 0 = r then (k : Int) else -1) := by
        show seekI r fr (k + 1) = _
        rw [seekI, HOK.out, if_neg (by omega)]
      have HK : Hid (0 ≤ seekI r fr (k + 1) → seekI r fr fr.length = seekI r fr (k + 1)) := seekI_keep r fr (k + 1) fr.length (by omega)
      generalize fr.getD k 0 = x at c0 HS
      by_cases hx : x = r
      · have he : (x == r) = true := by simpa using hx
        have HR2 : Hid (res = (k : Int)) := by
          show res = _
          have h1 := HS.out
          rw [if_pos hx] at h1
          rw [HR.out, HK.out (by rw [h1]; omega), h1]
        clear hx
        go_wp2
        go_ret
        have hres := HR2.out
        subst hres
        exact ⟨rfl, rfl⟩
      · have he : (x == r) = false := by simpa using hx
        have HOK2 : Hid (seekI r fr (k + 1) = -1) := by
          show seekI r fr (k + 1) = -1
          rw [HS.out, if_neg hx]
        clear hx
        go_wp2
        go_roundw
        case rel => exact ⟨k + 1, by omega, by go_num, HOK2.out, trivial⟩
        case measure => simp [intOf]; omega
    · obtain rfl : k = fr.length := by omega
      have HR2 : Hid (res = -1) := by show res = -1; rw [HR.out, HOK.out]
      go_wp2
      go_ret
      exact ⟨by rw [HR2.out]; rfl, rfl⟩
/-- The lines of the first k words, each once. -/
def cardsK (xs : List Int) : Nat → List Int
  | 0 => []
  | k + 1 => if seekI (xs.getD k 0 / 8) (cardsK xs k) (cardsK xs k).length < 0 then cardsK xs k ++ [xs.getD k 0 / 8] else cardsK xs k
theorem cardsK_len (xs : List Int) (k : Nat) : (cardsK xs k).length ≤ k := by
  induction k with
  | zero => simp [cardsK]
  | succ k ih =>
    rw [cardsK]
    split
    · rw [List.length_append]; simp; omega
    · omega
def cardsS (xs : List Int) : List Int := if riseN xs 1023 xs.length = true then cardsK xs xs.length else []
set_option maxHeartbeats 1000000 in
set_option maxRecDepth 20000 in
theorem spec_cards (w : World) (a : Option Addr) (cap : Nat) (xs : List Int) (hn : xs.length ≤ 1048576) (hl : Nums w a xs) :
    Calls Try.prog 21 #[.slice a xs.length cap] w fun e w' => ∃ v, e = .returned v ∧ w'.ownsRow w.heap.size 2 1 v (cardsS xs).length ((cardsS xs).map (Value.int .i64)) ∧ Below w.heap.size w w' := by
  have HN : Hid (∀ w', Below w.heap.size w w' → Nums w' a xs) := fun w' h => hl.below h
  have HOK : Hid (∀ w', w' = w → Calls _ _ _ w' _) := fun w' q => spec_setok w' a cap xs hn (q ▸ hl)
  have HIN : Hid (riseN xs 1023 xs.length = true → ∀ k, k < xs.length → 0 ≤ xs.getD k 0 ∧ xs.getD k 0 ≤ 1023) := fun h k hk => riseN_in xs 1023 h k hk
  have HD : Hid (cardsS xs = if riseN xs 1023 xs.length = true then cardsK xs xs.length else []) := rfl
  generalize cardsS xs = res at HD ⊢
  clear hl
  cases hr : riseN xs 1023 xs.length with
  | false =>
    rw [hr] at HOK HD
    have HR : Hid (res = []) := by show res = []; rw [HD.out]; rfl
    clear hr HD
    go_enter Try.func21, Try.ntmps21
    go_wp2_with fail
    refine (HOK.out w rfl).mono ?_
    rintro e w2 ⟨rfl, hb2⟩
    have HB2 : Hid (Below w.heap.size w w2) := hb2
    clear hb2
    go_wp2
    go_ret
    refine ⟨.slice none 0 0, rfl, ?_, HB2.out⟩
    rw [HR.out]
    exact ⟨rfl, .inl ⟨rfl, rfl⟩⟩
  | true =>
    rw [hr] at HOK HD
    have HR : Hid (res = cardsK xs xs.length) := by show res = _; rw [HD.out]; rfl
    have HI2 : Hid (∀ k, k < xs.length → 0 ≤ xs.getD k 0 ∧ xs.getD k 0 ≤ 1023) := HIN.out hr
    clear hr HD HIN
    go_enter Try.func21, Try.ntmps21
    go_wp2_with fail
    refine (HOK.out w rfl).mono ?_
    rintro e w2 ⟨rfl, hb2⟩
    obtain ⟨X, hX⟩ : ∃ X, X = w2.alloc (.cells #[] 2) := ⟨_, rfl⟩
    have HX : Hid (X = w2.alloc (.cells #[] 2)) := hX
    have HBX : Hid (Below w.heap.size w X) := by rw [hX]; exact hb2.alloc hb2.size _
    have HO0 : Hid (X.ownsRow w.heap.size 2 1 (.slice (some ⟨w2.heap.size, 0, none⟩) 0 0) (cardsK xs 0).length ((cardsK xs 0).map (Value.int .i64))) := ⟨rfl, .inr ⟨w2.heap.size, 0, #[], rfl, hb2.size, by rw [hX]; exact heap_alloc_last w2 _, Nat.le_refl _, Nat.zero_le _, rfl, rfl⟩⟩
    clear hX hb2
    go_wp2
    rw [← HX.out]
    go_loopw [3, 4] (fun v i wr => ∃ k : Nat, k ≤ xs.length ∧ i = .int .i64 (k : Int) ∧ wr.ownsRow w.heap.size 2 1 v (cardsK xs k).length ((cardsK xs k).map (Value.int .i64)) ∧ Below w.heap.size w wr) (fun _ i _ => xs.length - (intOf i).toNat)
    case atStart => exact ⟨0, Nat.zero_le _, rfl, HO0.out, HBX.out⟩
    case round =>
      obtain ⟨k, hk, rfl, hown, hb⟩ := hrel
      have HO : Hid (wr.ownsRow w.heap.size 2 1 u3 (cardsK xs k).length ((cardsK xs k).map (Value.int .i64))) := hown
      have HB : Hid (Below w.heap.size w wr) := hb
      clear hown hb
      by_cases hlt : k < xs.length
      · have hlti : (k : Int) < (xs.length : Int) := by omega
        have hk0 : (0 : Int) ≤ (k : Int) := by omega
        obtain ⟨b2, off, rfl, c0⟩ := HN.out wr HB.out k hlt
        rw [getD_intI xs k hlt] at c0
        obtain ⟨hx0, hx1⟩ := HI2.out k hlt
        have HS : Hid (cardsK xs (k + 1) = if seekI (xs.getD k 0 / 8) (cardsK xs k) (cardsK xs k).length < 0 then cardsK xs k ++ [xs.getD k 0 / 8] else cardsK xs k) := rfl
        have hll := cardsK_len xs k
        obtain ⟨a3, g3, c3, rfl, hg3, hin⟩ := ints_of_row HO.out
        have HPL : Hid (∀ w', w' = wr → Calls _ _ _ w' _) := fun w' q => place_any w' a3 (cardsK xs k).length c3 (cardsK xs k) (xs.getD k 0 / 8) rfl (by omega) (q ▸ hin.nums)
        have HLK : Hid ((cardsK xs k).length ≤ 1048576) := by show (cardsK xs k).length ≤ _; omega
        generalize seekI (xs.getD k 0 / 8) (cardsK xs k) (cardsK xs k).length = sk at HS HPL
        generalize cardsK xs k = L at HO HS HPL HLK hin hll
        generalize xs.getD k 0 = x at c0 HS HPL hx0 hx1
        obtain ⟨q, rfl⟩ := Int.eq_ofNat_of_zero_le hx0
        clear hin hg3 hx0
        by_cases hsk : sk < 0
        · have HS2 : Hid (cardsK xs (k + 1) = L ++ [(q : Int) / 8]) := by
            have := HS.out
            rw [if_pos hsk] at this
            exact this
          go_wp2_with fail
          refine (HPL.out wr rfl).mono ?_
          rintro e w4 ⟨rfl, rfl⟩
          go_wp2_with (refine wpList_push wr (by rfl) _ _ (by rfl) w.heap.size (.slice a3 L.length c3) L ((q : Int) / 8) HO.out (by rfl) (by rfl) HLK.out HB.out.size ?_; intro g2 c2 w6 hown6 hb6 hB6; have HO6 : Hid (_) := hown6; have HB6 : Hid (Below w.heap.size w w6) := HB.out.trans hb6; clear hown6 hb6 hB6)
          go_roundw
          case rel => exact ⟨k + 1, by omega, by go_num, by rw [HS2.out]; exact HO6.out, HB6.out⟩
          case measure => simp [intOf]; omega
        · have HS2 : Hid (cardsK xs (k + 1) = L) := by
            have := HS.out
            rw [if_neg hsk] at this
            exact this
          go_wp2_with fail
          refine (HPL.out wr rfl).mono ?_
          rintro e w4 ⟨rfl, rfl⟩
          go_wp2
          go_roundw
          case rel => exact ⟨k + 1, by omega, by go_num, by rw [HS2.out]; exact HO.out, HB.out⟩
          case measure => simp [intOf]; omega
      · obtain rfl : k = xs.length := by omega
        go_wp2
        go_ret
        refine ⟨u3, rfl, ?_, HB.out⟩
        rw [HR.out]; exact HO.out
end Go.Proofs.Ytihfenpeahhfdaa.ints
