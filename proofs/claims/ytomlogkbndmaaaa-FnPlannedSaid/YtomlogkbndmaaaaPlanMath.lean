/-
  A run that is found can be taken, and what it leaves is a map; places that are planned one behind the other.
-/
import Derived.Test.YtomlogkbndmaaaaGaps4
import Derived.Test.YtomlogkbndmaaaaBitMath
import Derived.Test.YtomlogkbndmaaaaImage
namespace Go.Proofs.Ytomlogkbndmaaaa.pl
open Go.RowKit lb kinds obj

theorem mapOk_bits (m : ByteArray) : mapOk m = true ↔ m.size = 64 ∧ ∀ n, 128 ≤ n → n < 512 → bitAt m.data.toList n = false := by
  by_cases hs : m.size = 64
  · have hl : m.data.toList.length = 64 := by simpa using hs
    have h0 := among_all m.data.toList hl
    have e : mapOk m = decide (mix (· &&& ·) m.data.toList (runK 0 128) = m.data.toList) := by rw [h0, mapOk, hs]; rfl
    rw [e, decide_eq_true_eq]
    constructor
    · intro h
      refine ⟨hs, fun n h1 h2 => ?_⟩
      rw [← h, bit_and _ _ hl n h2, bit_run 0 128 n (by omega), decide_eq_false (by omega : ¬ n < 0 + 128)]
      simp
    · rintro ⟨_, h⟩
      apply bit_ext _ _ (by rw [mix_length]; exact hl) hl
      intro n hn
      rw [bit_and _ _ hl n hn, bit_run 0 128 n (by omega)]
      by_cases h1 : n < 128
      · rw [decide_eq_true (by omega : 0 ≤ n), decide_eq_true (by omega : n < 0 + 128)]; simp
      · rw [h n (by omega) hn]; rfl
  · constructor
    · intro h; exact absurd (mapOk_size h) hs
    · rintro ⟨h, _⟩; exact absurd h hs
theorem size_mk (l : List UInt8) : (ByteArray.mk l.toArray).size = l.length := by show l.toArray.size = _; simp
theorem data_mk (l : List UInt8) : (ByteArray.mk l.toArray).data.toList = l := by simp
theorem take_map (m : ByteArray) (a n : Int) (h : takeOk m a n = true) : mapOk (turned m a n) = true := by
  unfold takeOk at h
  rw [Bool.and_eq_true, Bool.and_eq_true] at h
  obtain ⟨⟨hm, hr⟩, hf⟩ := h
  obtain ⟨A, N, rfl, rfl, h128, hN⟩ := runOkB_nat hr
  obtain ⟨hs, hb⟩ := (mapOk_bits m).1 hm
  have hl : m.data.toList.length = 64 := by simpa using hs
  have e : turned m (A : Int) (N : Int) = ⟨(turnK m.data.toList A N).toArray⟩ := by simp [turned]
  have htl : (turnK m.data.toList A N).length = 64 := by rw [turnK_length]; exact hl
  rw [mapOk_bits, e, size_mk, data_mk]
  refine ⟨htl, fun n h1 h2 => ?_⟩
  rw [bit_turn _ hl A N n (by omega), hb n h1 h2, decide_eq_false (by omega : ¬ n < A + N)]
  simp
theorem find_in (m : ByteArray) (a b n : Int) : findOf m a b n = -1 ∨ ∃ t q : Nat, n = (q : Int) ∧ findOf m a b n = (t : Int) ∧ 1 ≤ q ∧ t + q ≤ 128 ∧ takeOk m (t : Int) (q : Int) = true := by
  unfold findOf
  by_cases hc : (mapOk m && rangeB a b && (decide (1 ≤ n) && decide (n ≤ 128))) = true
  · rw [if_pos hc]
    rw [Bool.and_eq_true] at hc
    obtain ⟨A, N, rfl, rfl, h128, hm, e1, e2⟩ := yes_nat hc.1
    have hn : 1 ≤ n ∧ n ≤ 128 := by simpa using hc.2
    obtain ⟨q, rfl⟩ := Int.eq_ofNat_of_zero_le (by omega : 0 ≤ n)
    rw [e1, e2, Int.toNat_natCast]
    have hf := findG_first m.data.toList A N q (by omega)
    rcases hf with ⟨t, h1, h2, h3, h4, h5⟩ | ⟨h1, _⟩
    · right
      have hr : runOkB (t : Int) (q : Int) = true := by
        unfold runOkB
        simp
        omega
      exact ⟨t, q, rfl, h1, by omega, by omega, by rw [takeOk, hm, hr]; simpa using h4⟩
    · left; exact h1
  · left; rw [if_neg hc]
theorem take_neg (m : ByteArray) (n : Int) : takeOk m (-1) n = false := by
  have hr : runOkB (-1) n = false := by unfold runOkB; simp
  unfold takeOk
  rw [hr]
  simp
/-- The map and the places behind k of them; none where one has no place. -/
def planK (n1 n2 : Int) (xs : List ByteArray) (ts : List Int) (m : ByteArray) : Nat → Option (ByteArray × List Int)
  | 0 => some (m, [])
  | k + 1 => match planK n1 n2 xs ts m k with
    | none => none
    | some (q, l) => if findOf q (4 + n2) n1 (runOf (kd xs (ts.getD k 0))) < 0 then none else some (turned q (findOf q (4 + n2) n1 (runOf (kd xs (ts.getD k 0)))) (runOf (kd xs (ts.getD k 0))), l ++ [findOf q (4 + n2) n1 (runOf (kd xs (ts.getD k 0)))])
theorem planK_none (n1 n2 : Int) (xs : List ByteArray) (ts : List Int) (m : ByteArray) (k n : Nat) (h : k ≤ n) (hf : planK n1 n2 xs ts m k = none) : planK n1 n2 xs ts m n = none := by
  induction n with
  | zero => rw [show k = 0 by omega] at hf; exact hf
  | succ n ih =>
    by_cases e : k = n + 1
    · rw [← e]; exact hf
    · rw [planK, ih (by omega)]
theorem planK_len (n1 n2 : Int) (xs : List ByteArray) (ts : List Int) (m : ByteArray) (k : Nat) {q : ByteArray} {l : List Int} (h : planK n1 n2 xs ts m k = some (q, l)) : l.length = k := by
  induction k generalizing q l with
  | zero =>
    have h2 := (Prod.mk.inj (Option.some.inj h)).2
    rw [← h2]; rfl
  | succ k ih =>
    rw [planK] at h
    cases hp : planK n1 n2 xs ts m k with
    | none => rw [hp] at h; cases h
    | some p =>
      obtain ⟨q', l'⟩ := p
      rw [hp] at h
      simp only at h
      split at h
      · cases h
      · have h2 := (Prod.mk.inj (Option.some.inj h)).2
        rw [← h2, List.length_append, ih hp]
        rfl
theorem planK_map (n1 n2 : Int) (xs : List ByteArray) (ts : List Int) (m : ByteArray) (hm : mapOk m = true) (k : Nat) {q : ByteArray} {l : List Int} (h : planK n1 n2 xs ts m k = some (q, l)) : mapOk q = true := by
  induction k generalizing q l with
  | zero =>
    have h1 := (Prod.mk.inj (Option.some.inj h)).1
    rw [← h1]; exact hm
  | succ k ih =>
    rw [planK] at h
    cases hp : planK n1 n2 xs ts m k with
    | none => rw [hp] at h; cases h
    | some p =>
      obtain ⟨q', l'⟩ := p
      rw [hp] at h
      simp only at h
      split at h
      · cases h
      · rename_i hneg
        have h1 := (Prod.mk.inj (Option.some.inj h)).1
        rw [← h1]
        rcases find_in q' (4 + n2) n1 (runOf (kd xs (ts.getD k 0))) with e | ⟨t, u, e1, e2, _, _, e3⟩
        · rw [e] at hneg; omega
        · rw [e2, e1]
          exact take_map q' _ _ e3
def allIn (n : Nat) (ts : List Int) : Nat → Bool
  | 0 => true
  | k + 1 => allIn n ts k && placeB n (ts.getD k 0)
theorem allIn_le (n : Nat) (ts : List Int) (k l : Nat) (hk : k ≤ l) (hf : allIn n ts k = false) : allIn n ts l = false := by
  induction l with
  | zero => rw [show k = 0 by omega] at hf; exact hf
  | succ l ih =>
    by_cases e : k = l + 1
    · rw [← e]; exact hf
    · rw [allIn, ih (by omega)]; rfl
theorem allIn_at (n : Nat) (ts : List Int) (hok : allIn n ts ts.length = true) (k : Nat) (hk : k < ts.length) : placeB n (ts.getD k 0) = true := by
  have h1 : allIn n ts (k + 1) = true := by
    cases e : allIn n ts (k + 1) with
    | true => rfl
    | false => rw [allIn_le n ts (k + 1) ts.length (by omega) e] at hok; cases hok
  rw [allIn, Bool.and_eq_true] at h1
  exact h1.2
def planPre (n1 n2 n3 : Int) (xs : List ByteArray) (m : ByteArray) (ts : List Int) : Bool := configOk n1 n2 n3 xs && (mapOk m && (decide (ts.length ≤ 400) && allIn xs.length ts ts.length))
def planB (n1 n2 n3 : Int) (xs : List ByteArray) (m : ByteArray) (ts : List Int) : Bool := planPre n1 n2 n3 xs m ts && (planK n1 n2 xs ts m ts.length).isSome
def planV (n1 n2 n3 : Int) (xs : List ByteArray) (m : ByteArray) (ts : List Int) : List Int := if planPre n1 n2 n3 xs m ts = true then ((planK n1 n2 xs ts m ts.length).map (·.2)).getD [] else []
theorem planV_len (n1 n2 n3 : Int) (xs : List ByteArray) (m : ByteArray) (ts : List Int) (h : ts.length ≤ 1048576) : (planV n1 n2 n3 xs m ts).length ≤ 1048576 := by
  unfold planV
  split
  · cases hp : planK n1 n2 xs ts m ts.length with
    | none => simp
    | some p =>
      obtain ⟨q, l⟩ := p
      have := planK_len n1 n2 xs ts m ts.length hp
      simp
      omega
  · simp
/-- What Planned answers. -/
def PlAns (n1 n2 n3 : Int) (xs : List ByteArray) (m : ByteArray) (ts : List Int) (w : World) (e : Ending) (w' : World) : Prop :=
  ∃ v, e = .returned (.tuple #[v, .bool (planB n1 n2 n3 xs m ts)]) ∧ w'.ownsRow w.heap.size 2 1 v (planV n1 n2 n3 xs m ts).length ((planV n1 n2 n3 xs m ts).map (Value.int .i64)) ∧ Below w.heap.size w w'
theorem pl_no {n1 n2 n3 : Int} {xs : List ByteArray} {m : ByteArray} {ts : List Int} {w w' : World} {e : Ending} (h : planPre n1 n2 n3 xs m ts = false ∨ planK n1 n2 xs ts m ts.length = none) (he : e = .returned (.tuple #[.slice none 0 0, .bool false])) (hb : Below w.heap.size w w') : PlAns n1 n2 n3 xs m ts w e w' := by
  have hB : planB n1 n2 n3 xs m ts = false := by
    unfold planB
    rcases h with h | h
    · rw [h]; rfl
    · rw [h]; simp
  have hV : planV n1 n2 n3 xs m ts = [] := by
    unfold planV
    rcases h with h | h
    · rw [h]; rfl
    · rw [h]; simp
  refine ⟨.slice none 0 0, by rw [hB]; exact he, ?_, hb⟩
  rw [hV]
  exact ⟨rfl, .inl ⟨rfl, rfl⟩⟩
theorem pl_yes {n1 n2 n3 : Int} {xs : List ByteArray} {m : ByteArray} {ts : List Int} {w w' : World} {e : Ending} {v : Value} {q : ByteArray} {l : List Int} (h : planPre n1 n2 n3 xs m ts = true) (hp : planK n1 n2 xs ts m ts.length = some (q, l)) (he : e = .returned (.tuple #[v, .bool true])) (ho : w'.ownsRow w.heap.size 2 1 v l.length (l.map (Value.int .i64))) (hb : Below w.heap.size w w') : PlAns n1 n2 n3 xs m ts w e w' := by
  have hB : planB n1 n2 n3 xs m ts = true := by unfold planB; rw [h, hp]; rfl
  have hV : planV n1 n2 n3 xs m ts = l := by unfold planV; rw [h, hp]; rfl
  refine ⟨v, by rw [hB]; exact he, ?_, hb⟩
  rw [hV]
  exact ho
end Go.Proofs.Ytomlogkbndmaaaa.pl
