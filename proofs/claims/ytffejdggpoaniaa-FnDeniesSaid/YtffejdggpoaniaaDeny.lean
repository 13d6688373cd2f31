/-
  DenyOf, by the program and by the specification.
-/
import Derived.Test.YtffejdggpoaniaaAns2
import Derived.Deep.AppendLies
import Derived.Deep.RegionLaw
import Derived.Deep.WholeRow
namespace Go.Proofs.Ytffejdggpoaniaa.ans
open Go.RowKit
open ints inr

theorem step_pushI {ops : Array Oper} {o : Oper} {a : Act} {K : Act → World → Prop} {Q : Exit → Act → World → Prop} {E : Prop} (X : World) (hgd : o.guard = none) (s x : Operand)
    (ho : o.op = .call { callee := .builtin .append, args := #[s, x], argTypes := #[24, 24] }) (base : Nat) (v : Value) (xs : List Int) (y : Int)
    (hown : X.ownsRow base 2 1 v xs.length (xs.map (Value.int .i64))) (hs : a.eval s = v) (hx : a.eval x = .slice (some ⟨X.heap.size, 0, none⟩) 1 1) (hn : xs.length ≤ 1048576) (hbase : base ≤ X.heap.size)
    (h : ∀ g cap w', w'.ownsRow base 2 1 (.slice (some ⟨g, 0, none⟩) (xs.length + 1) cap) (xs ++ [y]).length ((xs ++ [y]).map (Value.int .i64)) → Below base X w' → base ≤ w'.heap.size → K (a.put o.dst (.slice (some ⟨g, 0, none⟩) (xs.length + 1) cap)) w') :
    if Region.wanted o (yielded ops a.tmps) = true then Oper.wp Try.prog o a (X.alloc (.cells #[.int .i64 y] 2)) K Q else E := by
  obtain ⟨i0, hi, hzz⟩ := Option.map_eq_some_iff.1 infoInt64
  simp only [Prod.mk.injEq] at hzz
  obtain ⟨hz0, hz1, hz2⟩ := hzz
  refine step_append_lies _ hgd s x 24 ho base 2 i0 (.int .i64 0) 1 8 Try.underlying24 hi hz0 hz1 hz2 rfl (by decide) v xs.length _ hs (hown.alloc _) ⟨X.heap.size, 0, none⟩ 1 1 [.int .i64 y] hx rfl ?_ ?_ (by decide) ?_ ?_ ?_ _ rfl ?_
  · intro j u hj
    match j, hj with
    | 0, hj => simp at hj; subst hj; rw [show (⟨X.heap.size, 0, none⟩ : Addr).add 0 = ⟨X.heap.size, 0, none⟩ from rfl, World.cell?_alloc_new]; rfl
  · intro u hu; simp at hu; subst hu; rfl
  · unfold maxLen; omega
  · omega
  · simp; omega
  · intro g cap w' hown' hgrow hat hlt
    have hb : Below base X w' := own_step (hown.alloc _) ((Below.refl _ _).alloc hbase _) (by simp; omega) hgrow
    exact h g cap w' (by simpa using hown') hb (Nat.le_trans hbase hb.size)
def denyB (x : Int) : Bool := decide (10 ≤ x) && decide (x ≤ 12)
def denyOne (x : Int) : Int := if denyB x = true then x else 0
def denyK (xs : List Int) : Nat → List Int
  | 0 => []
  | k + 1 => denyK xs k ++ [denyOne (xs.getD (k * 2) 0)]
theorem denyK_len (xs : List Int) (k : Nat) : (denyK xs k).length = k := by
  induction k with
  | zero => rfl
  | succ k ih => rw [denyK, List.length_append, ih]; rfl
theorem denyK_at (xs : List Int) (n i : Nat) (h : i < n) : (denyK xs n).getD i 0 = denyOne (xs.getD (i * 2) 0) := by
  induction n with
  | zero => omega
  | succ n ih =>
    rw [denyK, List.getD_eq_getElem?_getD]
    by_cases e : i < n
    · rw [List.getElem?_append_left (by rw [denyK_len]; exact e), ← List.getD_eq_getElem?_getD]
      exact ih e
    · have : i = n := by omega
      subst this
      rw [List.getElem?_append_right (by rw [denyK_len]; exact Nat.le_refl _), denyK_len, Nat.sub_self]
      rfl
/-- What DenyOf answers. -/
def denyV (xs : List Int) (n : Nat) : List Int := if n ≤ 60 then denyK xs n else []
theorem denyV_len (xs : List Int) (n : Nat) : (denyV xs n).length ≤ 60 := by
  unfold denyV
  split
  · rw [denyK_len]; assumption
  · simp
theorem when_any (w : World) (b : Bool) (x : Int) :
    Calls Try.prog 18 #[.bool b, .int .i64 x] w fun e w' => e = .returned (.int .i64 (if b = true then x else 0)) ∧ w = w' := by
  cases b with
  | false =>
    rw [if_neg (by decide)]
    go_enter Try.func18, Try.ntmps18
    go_wp2
    go_ret
    exact ⟨rfl, rfl⟩
  | true =>
    rw [if_pos rfl]
    go_enter Try.func18, Try.ntmps18
    go_wp2
    go_ret
    exact ⟨rfl, rfl⟩
set_option maxHeartbeats 1000000 in
set_option maxRecDepth 20000 in
theorem spec_deny (w : World) (a : Option Addr) (cap n : Nat) (xs : List Int) (hx : xs.length = n * 2) (hl : Nums w a xs) (hn : n ≤ 1048576) :
    Calls Try.prog 6 #[.slice a n cap] w fun e w' => ∃ v, e = .returned v ∧ w'.ownsRow w.heap.size 2 1 v (denyV xs n).length ((denyV xs n).map (Value.int .i64)) ∧ Below w.heap.size w w' := by
  have HV : Hid (denyV xs n = if n ≤ 60 then denyK xs n else []) := rfl
  by_cases hbig : (60 : Int) < (n : Int)
  · have HV0 : Hid (denyV xs n = []) := by show denyV xs n = []; rw [HV.out]; exact if_neg (by omega)
    generalize denyV xs n = V at HV0 ⊢
    go_enter Try.func6, Try.ntmps6
    go_wp2
    go_ret
    exact ⟨.slice none 0 0, rfl, by rw [HV0.out]; exact ⟨rfl, .inl ⟨rfl, rfl⟩⟩, Below.refl _ _⟩
  · have HV0 : Hid (denyV xs n = denyK xs n) := by show denyV xs n = denyK xs n; rw [HV.out]; exact if_pos (by omega)
    generalize denyV xs n = V at HV0 ⊢
    clear HV
    have HXL : Hid (xs.length = n * 2) := hx
    have HN : Hid (∀ w', Below w.heap.size w w' → Nums w' a xs) := fun w' h => hl.below h
    obtain ⟨X, hX⟩ : ∃ X, X = w.alloc (.cells #[] 2) := ⟨_, rfl⟩
    have HX : Hid (X = w.alloc (.cells #[] 2)) := hX
    have HBX : Hid (Below w.heap.size w X) := by rw [hX]; exact (Below.refl _ _).alloc (Nat.le_refl _) _
    have HO0 : Hid (X.ownsRow w.heap.size 2 1 (.slice (some ⟨w.heap.size, 0, none⟩) 0 0) (denyK xs 0).length ((denyK xs 0).map (Value.int .i64))) := ⟨rfl, .inr ⟨w.heap.size, 0, #[], rfl, Nat.le_refl _, by rw [hX]; exact heap_alloc_last w _, Nat.le_refl _, Nat.zero_le _, rfl, rfl⟩⟩
    have hn60 : n ≤ 60 := by omega
    clear hX hx hl hn
    go_enter Try.func6, Try.ntmps6
    go_wp2
    rw [← HX.out]
    go_loopw [3, 4] (fun v i wr => ∃ k : Nat, k ≤ n ∧ i = .int .i64 (k : Int) ∧ wr.ownsRow w.heap.size 2 1 v (denyK xs k).length ((denyK xs k).map (Value.int .i64)) ∧ Below w.heap.size w wr) (fun _ i _ => n - (intOf i).toNat)
    case atStart => exact ⟨0, Nat.zero_le _, rfl, HO0.out, HBX.out⟩
    case round =>
      obtain ⟨k, hk, rfl, hown, hb⟩ := hrel
      have HO : Hid (wr.ownsRow w.heap.size 2 1 u3 (denyK xs k).length ((denyK xs k).map (Value.int .i64))) := hown
      have HB : Hid (Below w.heap.size w wr) := hb
      clear hown hb
      by_cases hlt : k < n
      · have hlti : (k : Int) < (n : Int) := by omega
        have hi : k * 2 < xs.length := by have := HXL.out; omega
        obtain ⟨ab, off, rfl, c0⟩ := HN.out wr HB.out (k * 2) hi
        have HS : Hid (denyK xs (k + 1) = denyK xs k ++ [denyOne xs[k * 2]]) := by
          show denyK xs (k + 1) = _
          rw [denyK, List.getD_eq_getElem?_getD, List.getElem?_eq_getElem hi]
          rfl
        have HLK : Hid ((denyK xs k).length ≤ 1048576) := by show (denyK xs k).length ≤ _; rw [denyK_len]; omega
        have HD : Hid (denyOne xs[k * 2] = if denyB xs[k * 2] = true then xs[k * 2] else 0) := rfl
        have HC : Hid (∀ w, Calls _ _ _ w _) := fun w => in_any w xs[k * 2] 10 12
        have HBD : Hid ((decide (10 ≤ xs[k * 2]) && decide (xs[k * 2] ≤ 12)) = denyB xs[k * 2]) := rfl
        rw [HBD.out] at HC
        clear HBD
        generalize denyOne xs[k * 2] = y at HS HD
        generalize xs[k * 2] = x at c0 HC HD
        generalize denyK xs k = L at HO HS HLK
        cases hd : denyB x with
        | false =>
          rw [hd] at HC
          have HY : Hid (y = 0) := by show y = 0; rw [HD.out, hd]; exact if_neg (by decide)
          clear hd HD
          go_wp2_with fail
          refine (HC.out _).mono ?_
          rintro e w4 ⟨rfl, rfl⟩
          obtain ⟨z, hz⟩ : ∃ z : Int, z = 0 := ⟨_, rfl⟩
          have HS2 : Hid (denyK xs (k + 1) = L ++ [0]) := by show denyK xs (k + 1) = L ++ [0]; rw [HS.out, HY.out]
          go_wp2_with (refine wpList_push wr (by rfl) _ _ (by rfl) w.heap.size u3 L 0 HO.out (by rfl) (by rfl) HLK.out HB.out.size ?_; intro g2 c2 w6 hown6 hb6 hB6; have HO6 : Hid (_) := hown6; have HB6 : Hid (Below w.heap.size w w6) := HB.out.trans hb6; clear hown6 hb6 hB6)
          go_roundw
          case rel => exact ⟨k + 1, by omega, by go_num, by rw [HS2.out]; exact HO6.out, HB6.out⟩
          case measure => simp [intOf]; omega
        | true =>
          rw [hd] at HC
          have HY : Hid (y = x) := by show y = x; rw [HD.out, hd]; exact if_pos rfl
          clear hd HD
          go_wp2_with fail
          refine (HC.out _).mono ?_
          rintro e w4 ⟨rfl, rfl⟩
          have HS2 : Hid (denyK xs (k + 1) = L ++ [x]) := by show denyK xs (k + 1) = L ++ [x]; rw [HS.out, HY.out]
          go_wp2_with (refine wpList_push wr (by rfl) _ _ (by rfl) w.heap.size u3 L x HO.out (by rfl) (by rfl) HLK.out HB.out.size ?_; intro g2 c2 w6 hown6 hb6 hB6; have HO6 : Hid (_) := hown6; have HB6 : Hid (Below w.heap.size w w6) := HB.out.trans hb6; clear hown6 hb6 hB6)
          go_roundw
          case rel => exact ⟨k + 1, by omega, by go_num, by rw [HS2.out]; exact HO6.out, HB6.out⟩
          case measure => simp [intOf]; omega
      · obtain rfl : k = n := by omega
        have hlti : ¬ (k : Int) < (k : Int) := by omega
        go_wp2
        go_ret
        exact ⟨u3, rfl, by rw [HV0.out]; exact HO.out, HB.out⟩
set_option maxHeartbeats 1000000 in
set_option maxRecDepth 20000 in
theorem impl_deny (w : World) (a : Option Addr) (cap n : Nat) (xs : List Int) (hx : xs.length = n * 2) (hl : Nums w a xs) (hn : n ≤ 1048576) :
    Calls Try.prog 8 #[.slice a n cap] w fun e w' => ∃ v, e = .returned v ∧ w'.ownsRow w.heap.size 2 1 v (denyV xs n).length ((denyV xs n).map (Value.int .i64)) ∧ Below w.heap.size w w' := by
  have HV : Hid (denyV xs n = if n ≤ 60 then denyK xs n else []) := rfl
  by_cases hbig : (60 : Int) < (n : Int)
  · have HV0 : Hid (denyV xs n = []) := by show denyV xs n = []; rw [HV.out]; exact if_neg (by omega)
    generalize denyV xs n = V at HV0 ⊢
    go_enter Try.func8, Try.ntmps8
    go_wp2
    go_ret
    exact ⟨.slice none 0 0, rfl, by rw [HV0.out]; exact ⟨rfl, .inl ⟨rfl, rfl⟩⟩, Below.refl _ _⟩
  · have HV0 : Hid (denyV xs n = denyK xs n) := by show denyV xs n = denyK xs n; rw [HV.out]; exact if_pos (by omega)
    generalize denyV xs n = V at HV0 ⊢
    clear HV
    have HXL : Hid (xs.length = n * 2) := hx
    have HN : Hid (∀ w', Below w.heap.size w w' → Nums w' a xs) := fun w' h => hl.below h
    have hn60 : n ≤ 60 := by omega
    clear hx hl hn
    go_enter Try.func8, Try.ntmps8
    go_wp2
    go_loopw [3, 11] (fun v i wr => ∃ k : Nat, k ≤ n ∧ i = .int .i64 (k : Int) ∧ wr.ownsRow w.heap.size 2 1 v (denyK xs k).length ((denyK xs k).map (Value.int .i64)) ∧ Below w.heap.size w wr) (fun _ i _ => n - (intOf i).toNat)
    case atStart => exact ⟨0, Nat.zero_le _, rfl, ⟨rfl, .inl ⟨rfl, rfl⟩⟩, Below.refl _ _⟩
    case round =>
      obtain ⟨k, hk, rfl, hown, hb⟩ := hrel
      have HO : Hid (wr.ownsRow w.heap.size 2 1 u3 (denyK xs k).length ((denyK xs k).map (Value.int .i64))) := hown
      have HB : Hid (Below w.heap.size w wr) := hb
      clear hown hb
      by_cases hlt : k < n
      · have hlti : (k : Int) < (n : Int) := by omega
        have hi : k * 2 < xs.length := by have := HXL.out; omega
        have hi1 : k * 2 + 1 < xs.length := by have := HXL.out; omega
        obtain ⟨ab, off, rfl, c0⟩ := HN.out wr HB.out (k * 2) hi
        obtain ⟨ab2, off2, he, c1⟩ := HN.out wr HB.out (k * 2 + 1) hi1
        have e1 : ab = ab2 := by simpa using congrArg (fun a : Option Addr => (a.map Addr.block)) he
        have e2 : off = off2 := by simpa using congrArg (fun a : Option Addr => (a.map Addr.off)) he
        subst e1; subst e2
        have c1' : wr.cell? ⟨ab, off + k * 2 + 1, none⟩ = some (.int .i64 xs[k * 2 + 1]) := by rw [Nat.add_assoc]; exact c1
        have HS : Hid (denyK xs (k + 1) = denyK xs k ++ [denyOne xs[k * 2]]) := by
          show denyK xs (k + 1) = _
          rw [denyK, List.getD_eq_getElem?_getD, List.getElem?_eq_getElem hi]
          rfl
        have HLK : Hid ((denyK xs k).length ≤ 1048576) := by show (denyK xs k).length ≤ _; rw [denyK_len]; omega
        have HCI : Hid (∀ w, Calls _ _ _ w _) := fun w => within_any w xs[k * 2] 10 12
        have HCW : Hid (∀ w, Calls Try.prog 18 #[.bool (denyB xs[k * 2]), .int .i64 xs[k * 2]] w fun e w' => e = .returned (.int .i64 (denyOne xs[k * 2])) ∧ w = w') := fun w => when_any w (denyB xs[k * 2]) xs[k * 2]
        have HBD : Hid ((decide (10 ≤ xs[k * 2]) && decide (xs[k * 2] ≤ 12)) = denyB xs[k * 2]) := rfl
        rw [HBD.out] at HCI
        clear HBD c1 he
        generalize denyOne xs[k * 2] = y at HS HCW
        generalize denyB xs[k * 2] = db at HCI HCW
        generalize xs[k * 2] = x at c0 HCI HCW
        generalize xs[k * 2 + 1] = x1 at c1'
        generalize denyK xs k = L at HO HS HLK
        obtain ⟨X, hX⟩ : ∃ X, X = wr.alloc (.cells #[.int .i64 x, .int .i64 x1] 37) := ⟨_, rfl⟩
        have HX : Hid (X = wr.alloc (.cells #[.int .i64 x, .int .i64 x1] 37)) := hX
        have hbx : Below wr.heap.size wr X := by rw [hX]; exact (Below.refl _ _).alloc (Nat.le_refl _) _
        have m0 : X.cell? ⟨wr.heap.size, 0, none⟩ = some (.int .i64 x) := by rw [hX, World.cell?_alloc_new]; rfl
        have HBX : Hid (Below w.heap.size w X.drew) := (HB.out.trans (hbx.mono HB.out.size)).drew
        have HOX : Hid (X.drew.ownsRow w.heap.size 2 1 u3 L.length (L.map (Value.int .i64))) := own_below HO.out hbx.drew
        clear hX hbx
        go_wp2_with (rw [← HX.out])
        go_region_law ((first | (go_simp; go_at_call 19; refine (HCI.out _).mono ?_; rintro e w4 ⟨rfl, rfl⟩) | (go_simp; go_at_call 18; refine (HCW.out _).mono ?_; rintro e w4 ⟨rfl, rfl⟩) | (refine step_pushI X.drew (by rfl) _ _ (by rfl) w.heap.size u3 L y HOX.out (by rfl) (by rfl) HLK.out HBX.out.size ?_; intro g2 c2 w6 hown6 hb6 hB6; have HO6 : Hid (_) := hown6; have HB6 : Hid (Below w.heap.size w w6) := HBX.out.trans hb6; clear hown6 hb6 hB6)))
        all_goals
          go_wp2
          go_roundw
          case rel => exact ⟨k + 1, by omega, by go_num, by rw [HS.out]; exact HO6.out, HB6.out⟩
          case measure => simp [intOf]; omega
      · obtain rfl : k = n := by omega
        have hlti : ¬ (k : Int) < (k : Int) := by omega
        go_wp2
        go_ret
        exact ⟨u3, rfl, by rw [HV0.out]; exact HO.out, HB.out⟩
end Go.Proofs.Ytffejdggpoaniaa.ans
