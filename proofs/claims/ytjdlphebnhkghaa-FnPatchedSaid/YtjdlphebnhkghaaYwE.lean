/-
  Whether a set's words all lie in an image and are young there; the young words: the program's.
-/
import Derived.Test.YtjdlphebnhkghaaYwD
namespace Go.Proofs.Ytjdlphebnhkghaa.yw
open Go.RowKit Go.Shelf
open wmath num ints ref
attribute [local go_sem] Oper.semAt_some

set_option maxRecDepth 100000 in
set_option maxHeartbeats 400000 in
theorem remembers_img (w : World) (s : ByteArray) (a : Option Addr) (cap n : Nat) (hs : s.size ≤ 1048576) (him : imgB s = false) :
    Calls Try.prog 30 #[.string s, .slice a n cap] w fun e w' => e = .returned (.bool false) ∧ Below w.heap.size w w' := by
  have HD : ∀ w, Calls Try.prog 58 #[.agg #[.string s, .slice none 0 0]] w fun e w' => e = .returned (.bool false) ∧ Below w.heap.size w w' := fun w => by
    have := deviceOk_at w s hs
    rw [him] at this
    exact this
  clear him
  refine (callsIn_wide (n := 5)).1 ?_
  refine callsIn_of_wp_marks Try.func30 rfl trivial ?_ rfl
  simp only [Try.ntmps30, List.size_toArray, List.length_cons, List.length_nil, Nat.reduceAdd, Nat.reduceSub, Array.replicate_succ, Array.replicate_zero, List.push_toArray, List.append_toArray, List.nil_append, List.cons_append]
  gi_wp2_with fail
  refine ⟨trivial, ?_⟩
  refine (callsIn_wide.2 (HD _)).mono ?_
  rintro e w1 ⟨rfl, hb1⟩
  have hB1 : Below w.heap.size w w1 := ((Below.refl _ _).alloc (Nat.le_refl _) _).trans (hb1.mono (by simp))
  have hc : w1.cell? ⟨w.heap.size, 0, none⟩ = some (.bool false) := by
    rw [hb1.cell (p := ⟨w.heap.size, 0, none⟩) (by simp), World.cell?_alloc_new]; rfl
  have hf : w1.frozen? ⟨w.heap.size, 0, none⟩ = false := by
    rw [hb1.frozen (p := ⟨w.heap.size, 0, none⟩) (by simp)]; exact World.frozen?_alloc_new _ _ _ _
  clear hb1 HD
  gi_wp2_with fail
  refine ⟨trivial, ?_⟩
  gi_wp2
  have hc5 := World.cell?_setCell_same' w1 ⟨w.heap.size, 0, none⟩ (.bool false) (by rw [hc]; rfl)
  refine ⟨.bool false, ?_, rfl, hB1.setCell (p := ⟨w.heap.size, 0, none⟩) (Nat.le_refl _) _⟩
  simp [results, Try.results30, go_sem, hc5]
set_option maxRecDepth 100000 in
set_option maxHeartbeats 400000 in
theorem remembers_rise (w : World) (s : ByteArray) (a : Option Addr) (cap : Nat) (xs : List Int) (hs : s.size ≤ 1048576) (hn : xs.length ≤ 1048576) (hl : Nums w a xs) (him : imgB s = true) (hr : riseN xs ((s.size : Int) / 8 - 1) xs.length = false) :
    Calls Try.prog 30 #[.string s, .slice a xs.length cap] w fun e w' => e = .returned (.bool false) ∧ Below w.heap.size w w' := by
  have HD : ∀ w, Calls Try.prog 58 #[.agg #[.string s, .slice none 0 0]] w fun e w' => e = .returned (.bool true) ∧ Below w.heap.size w w' := fun w => by
    have := deviceOk_at w s hs
    rw [him] at this
    exact this
  have HRI : ∀ w', Below w.heap.size w w' → Calls Try.prog 57 #[.slice a xs.length cap, .int .i64 ((s.size : Int) / 8 - 1)] w' fun e w'' => e = .returned (.bool false) ∧ w'' = w' := fun w' h => by
    have := (rises_any w' a cap xs ((s.size : Int) / 8 - 1) hn (hl.below h)).mono fun _ _ q => (⟨q.1, q.2.symm⟩ : _ ∧ _)
    rw [hr] at this
    exact this
  have hw1 : IntKind.i64.wrap ((s.size : Int) / 8 - 1) = (s.size : Int) / 8 - 1 := by rw [IntKind.wrap_i64]; omega
  have hq0 : (0 : Int) ≤ (s.size : Int) / 8 := by omega
  generalize xs.length = n at HRI ⊢
  clear hr him hn hl
  refine (callsIn_wide (n := 5)).1 ?_
  refine callsIn_of_wp_marks Try.func30 rfl trivial ?_ rfl
  simp only [Try.ntmps30, List.size_toArray, List.length_cons, List.length_nil, Nat.reduceAdd, Nat.reduceSub, Array.replicate_succ, Array.replicate_zero, List.push_toArray, List.append_toArray, List.nil_append, List.cons_append]
  gi_wp2_with fail
  refine ⟨trivial, ?_⟩
  refine (callsIn_wide.2 (HD _)).mono ?_
  rintro e w1 ⟨rfl, hb1⟩
  have hB1 : Below w.heap.size w w1 := ((Below.refl _ _).alloc (Nat.le_refl _) _).trans (hb1.mono (by simp))
  have hc : w1.cell? ⟨w.heap.size, 0, none⟩ = some (.bool false) := by
    rw [hb1.cell (p := ⟨w.heap.size, 0, none⟩) (by simp), World.cell?_alloc_new]; rfl
  have hf : w1.frozen? ⟨w.heap.size, 0, none⟩ = false := by
    rw [hb1.frozen (p := ⟨w.heap.size, 0, none⟩) (by simp)]; exact World.frozen?_alloc_new _ _ _ _
  clear hb1 HD
  gi_wp2_with fail
  refine ⟨trivial, ?_⟩
  refine (callsIn_wide.2 (HRI _ hB1)).mono ?_
  rintro e w2 ⟨rfl, hw2⟩
  subst hw2
  clear HRI
  gi_wp2
  have hc5 := World.cell?_setCell_same' w2 ⟨w.heap.size, 0, none⟩ (.bool false) (by rw [hc]; rfl)
  refine ⟨.bool false, ?_, rfl, hB1.setCell (p := ⟨w.heap.size, 0, none⟩) (Nat.le_refl _) _⟩
  simp [results, Try.results30, go_sem, hc5]
/-- What remembersYoung answers. -/
theorem remembers_any (w : World) (s : ByteArray) (a : Option Addr) (cap : Nat) (xs : List Int) (hs : s.size ≤ 1048576) (hn : xs.length ≤ 1048576) (hl : Nums w a xs) :
    Calls Try.prog 30 #[.string s, .slice a xs.length cap] w fun e w' => e = .returned (.bool (ywOk s xs)) ∧ Below w.heap.size w w' := by
  unfold ywOk
  cases him : imgB s with
  | false =>
    have h := remembers_img w s a cap xs.length hs him
    simpa using h
  | true =>
    obtain ⟨h8, h1, h128⟩ := img_in him
    have hrf := rise_fit s xs h8 h128 xs.length
    rw [ywB_two]
    cases hr : riseN xs ((s.size : Int) / 8 - 1) xs.length with
    | false =>
      rw [hr] at hrf
      have h := remembers_rise w s a cap xs hs hn hl him hr
      have e : (riseN xs 1023 xs.length && (true && (fitB s xs xs.length && kinB s xs xs.length))) = false := by
        cases q1 : riseN xs 1023 xs.length <;> cases q2 : fitB s xs xs.length <;> rw [q1, q2] at hrf <;> simp at hrf ⊢
      rw [e]
      exact h
    | true =>
      rw [hr] at hrf
      have h := remembers_yes w s a cap xs hs hn hl him hr
      have e : (riseN xs 1023 xs.length && (true && (fitB s xs xs.length && kinB s xs xs.length))) = kinB s xs xs.length := by
        cases q1 : riseN xs 1023 xs.length <;> cases q2 : fitB s xs xs.length <;> rw [q1, q2] at hrf <;> simp at hrf ⊢
      rw [e]
      exact h
end Go.Proofs.Ytjdlphebnhkghaa.yw
