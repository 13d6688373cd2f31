/-
  The object that begins with a line of data of an image: by its run, and by trying all runs.
-/
import Derived.Test.YthmohmfkgoipkaaOlds1
import Derived.Test.YthmohmfkgoipkaaRoPre
namespace Go.Proofs.Ythmohmfkgoipkaa.img
open Go.RowKit
open kinds ints wmath num obj ref

/-- e lines of an image from line L on. -/
def subL (s : ByteArray) (L e : Nat) : ByteArray := s.extract (64 * L) (64 * (L + e))
theorem subL_size (s : ByteArray) (L e : Nat) (h : 64 * (L + e) ≤ s.size) : (subL s L e).size = 64 * e := by
  unfold subL
  rw [ByteArray.size_extract]
  omega
theorem subL_w (s : ByteArray) (L e : Nat) (h1 : 1 ≤ e) (_h : 64 * (L + e) ≤ s.size) : wAt (subL s L e) 0 = wAt s (64 * L) := by
  have e1 : (s.extract (64 * L) (64 * (L + e))).extract 0 (0 + 8) = s.extract (64 * L) (64 * L + 8) := by
    rw [ByteArray.extract_extract, Nat.min_eq_left (by omega)]
    rfl
  unfold wAt subL
  rw [e1]
def markT (xs : List ByteArray) (s : ByteArray) (L : Nat) : Bool := decide (1 ≤ wAt s (64 * L)) && decide (wAt s (64 * L) ≤ (xs.length : Int))
/-- The lines that the object's type wants. -/
def runL (xs : List ByteArray) (s : ByteArray) (L : Nat) : Nat := (runOf (kd xs (wAt s (64 * L) - 1))).toNat
theorem runOf_in (s : ByteArray) (h : isType s = true) : 1 ≤ runOf s ∧ runOf s ≤ 3 := by
  have hs := isType_size h
  unfold runOf
  rw [if_pos h]
  omega
theorem runOf_ge (s : ByteArray) : 0 ≤ runOf s := by
  unfold runOf
  split <;> omega
theorem kd_type {xs : List ByteArray} (ht : typesOk xs = true) {p : Nat} (h : p < xs.length) : isType xs[p] = true := by
  unfold typesOk at ht
  rw [Bool.and_eq_true] at ht
  exact List.all_eq_true.1 ht.2 _ (List.getElem_mem h)
theorem ro_parts {xs : List ByteArray} {t : ByteArray} (h : roB xs t = true) : typesOk xs = true ∧ markB xs t = true ∧ (t.size : Int) = 64 * runOf (kd xs (wAt t 0 - 1)) := by
  unfold roB at h
  rw [Bool.and_eq_true] at h
  have h2 := h.1
  unfold preB at h2
  rw [Bool.and_eq_true, Bool.and_eq_true, Bool.and_eq_true] at h2
  exact ⟨h2.1, h2.2.2.1, by simpa using h2.2.2.2⟩
theorem ro_run {xs : List ByteArray} {s : ByteArray} {L e : Nat} (h1 : 1 ≤ e) (h : 64 * (L + e) ≤ s.size) (hr : roB xs (subL s L e) = true) : e = runL xs s L ∧ markT xs s L = true := by
  obtain ⟨ht, hm, hs⟩ := ro_parts hr
  rw [subL_size s L e h, subL_w s L e h1 h] at hs
  unfold markB at hm
  rw [subL_w s L e h1 h] at hm
  exact ⟨by unfold runL; omega, hm⟩
theorem ro_none {xs : List ByteArray} {s : ByteArray} {L : Nat} (h : 64 * (L + 0) ≤ s.size) : roB xs (subL s L 0) = false := by
  cases hr : roB xs (subL s L 0) with
  | false => rfl
  | true =>
    have h2 := (ro_parts hr).2.2
    have h3 : preB xs (subL s L 0) = false := by
      unfold preB
      rw [subL_size s L 0 h]
      simp
    rw [ro_pre h3] at hr
    cases hr
def allOldL (n1 n2 : Int) (l : List Int) : Bool := allOld n1 n2 l l.length
theorem allOld_app (n1 n2 : Int) (l r : List Int) (k : Nat) (hk : k ≤ l.length) : allOld n1 n2 (l ++ r) k = allOld n1 n2 l k := by
  induction k with
  | zero => rfl
  | succ k ih =>
    rw [allOld, allOld, ih (by omega)]
    congr 2
    rw [List.getD_eq_getElem?_getD, List.getD_eq_getElem?_getD, List.getElem?_append_left (by omega)]
theorem allOldL_snoc (n1 n2 : Int) (l : List Int) (r : Int) : allOldL n1 n2 (l ++ [r]) = (allOldL n1 n2 l && oldB n1 n2 r) := by
  unfold allOldL
  rw [List.length_append]
  show allOld n1 n2 (l ++ [r]) (l.length + 1) = _
  rw [allOld, allOld_app n1 n2 l [r] l.length (Nat.le_refl _)]
  congr 2
  simp
theorem allOldL_le (n1 n2 : Int) (s : ByteArray) (vs : List Int) (k n : Nat) (h : k ≤ n) (hf : allOldL n1 n2 (refsL s vs k) = false) : allOldL n1 n2 (refsL s vs n) = false := by
  induction n with
  | zero => rw [show k = 0 by omega] at hf; exact hf
  | succ n ih =>
    by_cases e : k = n + 1
    · rw [← e]; exact hf
    · rw [refsL]
      split
      · rw [allOldL_snoc, ih (by omega)]; rfl
      · exact ih (by omega)
/-- The references of what e lines from L on read as. -/
def refsE (xs : List ByteArray) (s : ByteArray) (L e : Nat) : List Int := refsL (kd xs (roT xs (subL s L e))) (roV xs (subL s L e)) (roV xs (subL s L e)).length
def oldAt (n1 n2 : Int) (xs : List ByteArray) (s : ByteArray) (L e : Nat) : Bool := roB xs (subL s L e) && allOldL n1 n2 (refsE xs s L e)
def lineB (n1 n2 : Int) (xs : List ByteArray) (s : ByteArray) (L : Nat) : Bool := decide (64 * (L + runL xs s L) ≤ s.size) && oldAt n1 n2 xs s L (runL xs s L)
/-- What OldObject answers. -/
def ooB (n1 n2 n3 : Int) (xs : List ByteArray) (s : ByteArray) (l : Int) : Bool := (imageB n1 n2 n3 xs s && dataB n1 n2 l) && lineB n1 n2 xs s l.toNat
def ooT (n1 n2 n3 : Int) (xs : List ByteArray) (s : ByteArray) (l : Int) : Int := if ooB n1 n2 n3 xs s l = true then roT xs (subL s l.toNat (runL xs s l.toNat)) else 0
def ooV (n1 n2 n3 : Int) (xs : List ByteArray) (s : ByteArray) (l : Int) : List Int := if ooB n1 n2 n3 xs s l = true then roV xs (subL s l.toNat (runL xs s l.toNat)) else []
/-- An object and whether there is one, of one's own. -/
def OoAns (t : Int) (vs : List Int) (b : Bool) (w : World) (e : Ending) (w' : World) : Prop :=
  ∃ v, e = .returned (.tuple #[.agg #[.int .i64 t, v], .bool b]) ∧ w'.ownsRow w.heap.size 2 1 v vs.length (vs.map (Value.int .i64)) ∧ Below w.heap.size w w'
theorem oo_no {w w' : World} {e : Ending} (he : e = .returned (.tuple #[.agg #[.int .i64 0, .slice none 0 0], .bool false])) (hb : Below w.heap.size w w') : OoAns 0 [] false w e w' :=
  ⟨.slice none 0 0, he, ⟨rfl, .inl ⟨rfl, rfl⟩⟩, hb⟩
/-- What is known of an object that was read. -/
theorem ro_known {xs : List ByteArray} {t : ByteArray} (h : roB xs t = true) : ∃ p : Nat, ∃ hp : p < xs.length, roT xs t = (p : Int) ∧ (roV xs t).length = (xs[p]).size ∧ (roV xs t).length ≤ 23 ∧ kd xs (roT xs t) = xs[p] ∧ ∀ x ∈ roV xs t, x < 9223372036854775808 := by
  obtain ⟨hty, hm, _⟩ := ro_parts h
  unfold markB at hm
  simp at hm
  have h1 : roT xs t = wAt t 0 - 1 := by unfold roT; rw [h, if_pos rfl]
  have h2 : roV xs t = valsR t (kd xs (wAt t 0 - 1)).size := by unfold roV; rw [h, if_pos rfl]
  obtain ⟨p, hp⟩ := Int.eq_ofNat_of_zero_le (show 0 ≤ wAt t 0 - 1 by omega)
  have hlt : p < xs.length := by omega
  have hk : kd xs (wAt t 0 - 1) = xs[p] := by rw [hp]; exact kd_at p hlt
  have hs := isType_size (kd_type hty hlt)
  refine ⟨p, hlt, by rw [h1, hp], by rw [h2, valsR_len, hk], by rw [h2, valsR_len, hk]; exact hs.2, by rw [h1, hk], ?_⟩
  rw [h2]
  exact valsR_lt _ _
theorem ro_len (xs : List ByteArray) (t : ByteArray) : (roV xs t).length ≤ 23 := by
  cases h : roB xs t with
  | true =>
    obtain ⟨_, _, _, _, h4, _⟩ := ro_known h
    exact h4
  | false =>
    unfold roV
    rw [h]
    simp
theorem ooV_len (n1 n2 n3 : Int) (xs : List ByteArray) (s : ByteArray) (l : Int) : (ooV n1 n2 n3 xs s l).length ≤ 1048576 := by
  unfold ooV
  split
  · have := ro_len xs (subL s l.toNat (runL xs s l.toNat))
    omega
  · simp
/-- No run fits where the line's own does not. -/
theorem old_none {n1 n2 : Int} {xs : List ByteArray} {s : ByteArray} {L : Nat} (e : Nat) (h1 : 1 ≤ e) (h : 64 * (L + e) ≤ s.size) (hf : lineB n1 n2 xs s L = false) : oldAt n1 n2 xs s L e = false := by
  cases ho : oldAt n1 n2 xs s L e with
  | false => rfl
  | true =>
    have ho2 := ho
    unfold oldAt at ho2
    rw [Bool.and_eq_true] at ho2
    obtain ⟨he, _⟩ := ro_run h1 h ho2.1
    unfold lineB at hf
    rw [← he, decide_eq_true h, ho] at hf
    cases hf
theorem run_three {xs : List ByteArray} {s : ByteArray} {L : Nat} (h : roB xs (subL s L (runL xs s L)) = true) (hs : 64 * (L + runL xs s L) ≤ s.size) : 1 ≤ runL xs s L ∧ runL xs s L ≤ 3 := by
  have h0 : runL xs s L ≠ 0 := fun e => by
    rw [e] at h hs
    rw [ro_none hs] at h
    cases h
  obtain ⟨hty, _, _⟩ := ro_parts h
  obtain ⟨_, hm⟩ := ro_run (by omega : 1 ≤ runL xs s L) hs h
  unfold markT at hm
  simp at hm
  obtain ⟨p, hp⟩ := Int.eq_ofNat_of_zero_le (show 0 ≤ wAt s (64 * L) - 1 by omega)
  have hlt : p < xs.length := by omega
  have h3 := runOf_in _ (kd_type hty hlt)
  have hk : kd xs (wAt s (64 * L) - 1) = xs[p] := by rw [hp]; exact kd_at p hlt
  refine ⟨by omega, ?_⟩
  unfold runL
  rw [hk]
  omega
end Go.Proofs.Ythmohmfkgoipkaa.img
