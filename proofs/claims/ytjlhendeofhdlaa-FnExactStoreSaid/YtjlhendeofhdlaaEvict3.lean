/-
  What the specification's l2With and l2Evict return: a text with other bytes from a place on; the lines without one, and the text with its data, in new memory; nothing that was there is written.
-/
import Derived.Test.YtjlhendeofhdlaaEvict1
import Derived.Test.YtjlhendeofhdlaaDev5
namespace Go.Proofs.Ytjlhendeofhdlaa.dev
open Go.RowKit Go.Maps
open bb later

set_option maxHeartbeats 2000000 in
theorem l2With_any (w : World) (s : ByteArray) (o : Nat) (d : ByteArray) (hs : s.size ≤ 1048576) (h : o + d.size ≤ s.size) :
    Calls Try.prog 33 #[.string s, .int .i64 (o : Int), .string d] w fun e w' => e = .returned (.string (withAt s o d)) ∧ Below w.heap.size w w' := by
  have HE : Hid (s.extract 0 o ++ d ++ s.extract (o + d.size) s.size = withAt s o d) := withAt_eq s o d
  have h1 : (0 : Int) ≤ (o : Int) := by omega
  have h2 : (o : Int) ≤ (s.size : Int) := by omega
  have h3 : IntKind.i64.wrap ((o : Int) + (d.size : Int)) = (o : Int) + (d.size : Int) := by rw [IntKind.wrap_i64]; omega
  have h4 : (o : Int) + (d.size : Int) ≤ (s.size : Int) := by omega
  have h5 : (0 : Int) ≤ (o : Int) + (d.size : Int) := by omega
  have hz1 : (s.extract 0 o).size = o := by simp; omega
  have hz2 : (s.extract (o + d.size) s.size).size = s.size - (o + d.size) := by simp
  have h6 : (s.extract 0 o).size + d.size ≤ 1048576 := by omega
  have h7 : (s.extract 0 o ++ d).size + (s.extract (o + d.size) s.size).size ≤ 1048576 := by rw [ByteArray.size_append]; omega
  go_enter Try.func33, Try.ntmps33
  go_wp2
  go_region
  all_goals
    go_wp2
    go_ret
    refine ⟨?_, by first | exact Below.refl _ _ | exact (Below.refl _ _).drew | go_grown⟩
    rw [← HE.out]
    rfl
theorem take_find_no {ls : List Ln} (hp : ls.Pairwise (fun a b => a.place < b.place)) (k : Nat) (hk : k < ls.length) : findAt (ls.take k) ls[k].place = none := by
  unfold findAt
  rw [List.find?_eq_none]
  intro x hx
  obtain ⟨i, hi, rfl⟩ := List.getElem_of_mem hx
  have hik : i < k := by simp at hi; omega
  rw [List.getElem_take]
  have := (List.pairwise_iff_getElem.1 hp) i k (by omega) hk hik
  simp
  omega
theorem take_find (ls : List Ln) (p : Int) (k : Nat) (hk : k < ls.length) : findAt (ls.take (k + 1)) p = (findAt (ls.take k) p).or (if ls[k].place = p then some ls[k] else none) := by
  unfold findAt
  rw [List.take_succ_eq_append_getElem hk, List.find?_append]
  congr 1
  by_cases h : ls[k].place = p <;> simp [h]
theorem evict_hit {safe : ByteArray} {ls : List Ln} (h : DevOk safe ls) (k : Nat) (hk : k < ls.length) : evictS safe (ls.take k) ls[k].place = safe ∧ evictS safe (ls.take (k + 1)) ls[k].place = withAt safe (64 * ls[k].place.toNat) ls[k].data := by
  have h1 := take_find_no (ok_pairwise h) k hk
  have h2 := take_find ls ls[k].place k hk
  rw [h1] at h2
  constructor
  · unfold evictS; rw [h1]
  · unfold evictS; rw [h2]; simp
theorem evict_miss (safe : ByteArray) (ls : List Ln) (p : Int) (k : Nat) (hk : k < ls.length) (h : ls[k].place ≠ p) : evictS safe (ls.take (k + 1)) p = evictS safe (ls.take k) p := by
  unfold evictS
  rw [take_find ls p k hk, if_neg h]
  simp
theorem evictL_take (ls : List Ln) (p : Int) (k : Nat) (hk : k < ls.length) : evictL (ls.take (k + 1)) p = evictL (ls.take k) p ++ (if ls[k].place = p then [] else [ls[k]]) := by
  unfold evictL
  rw [List.take_succ_eq_append_getElem hk, List.filter_append]
  congr 1
  by_cases h : ls[k].place = p <;> simp [h]

theorem own_low {w : World} {B : Nat} {e : TypeId} {size : Nat} {v : Value} {n : Nat} {xs : List Value} (h : w.ownsRow (B + 1) e size v n xs) : w.ownsRow B e size v n xs := by
  refine ⟨h.1, ?_⟩
  rcases h.2 with q | ⟨g, cap, cur, q1, q2, q3⟩
  · exact .inl q
  · exact .inr ⟨g, cap, cur, q1, by omega, q3⟩
/-- As row_kept, with its own beginning kept. -/
theorem row_kept3 {w wr : World} {B : Nat} {v : Value} {n : Nat} {xs : List Value} (hB : B = w.heap.size + 3) (h : wr.ownsRow B 49 3 v n xs) (S V : Value) :
    ((wr.setCell ⟨w.heap.size + 1, 0, none⟩ S).setCell ⟨w.heap.size + 1, 1, none⟩ V).ownsRow (w.heap.size + 3) 49 3 v n xs := by
  subst hB
  have hne : v.ownBlock = none ∨ v.ownBlock ≠ some (w.heap.size + 1) := by
    rcases hv : v.ownBlock with _ | k
    · exact .inl rfl
    · exact .inr (fun q => by have := (h.lt k hv).1; injection q with q; omega)
  exact (h.kept (grown_set wr (w.heap.size + 1) 0 S) hne).kept (grown_set _ (w.heap.size + 1) 1 V) hne
end Go.Proofs.Ytjlhendeofhdlaa.dev
