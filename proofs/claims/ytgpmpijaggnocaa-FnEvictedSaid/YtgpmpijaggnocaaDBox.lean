/-
  Devices in boxes, as a law goes on; each of the program's and the specification's functions on them, in one form.
-/
import Derived.Test.YtgpmpijaggnocaaDrawD3
import Derived.Test.YtgpmpijaggnocaaSameDev
import Derived.Test.YtgpmpijaggnocaaDevLaw
import Derived.Test.YtgpmpijaggnocaaFlush5
import Derived.Test.YtgpmpijaggnocaaEvict4
import Derived.Test.YtgpmpijaggnocaaFence3
import Derived.Test.YtgpmpijaggnocaaStore6
import Derived.Test.YtgpmpijaggnocaaCrash3
namespace Go.Proofs.Ytgpmpijaggnocaa.dev
open Go.RowKit Go.Maps
open later

structure DBox (w : World) (B : Nat) (safe : ByteArray) (aa : Option Addr) (cp : Nat) (ls : List Ln) : Prop where
  c0 : w.cell? ⟨B, 0, none⟩ = some (.string safe)
  c1 : w.cell? ⟨B, 1, none⟩ = some (.slice aa ls.length cp)
  lines : Lines w aa ls
theorem DBox.below {w w' : World} {B : Nat} {safe : ByteArray} {aa : Option Addr} {cp : Nat} {ls : List Ln} (h : DBox w B safe aa cp ls) (hb : Below w.heap.size w w') : DBox w' B safe aa cp ls :=
  have hB : B < w.heap.size := World.block_lt_of_cell? w _ h.c0
  ⟨by rw [hb.cell (p := ⟨B, 0, none⟩) hB]; exact h.c0, by rw [hb.cell (p := ⟨B, 1, none⟩) hB]; exact h.c1, h.lines.below hb⟩
theorem DBox.new {w : World} (safe : ByteArray) {aa : Option Addr} (cp : Nat) {ls : List Ln} (T : TypeId) (hl : Lines w aa ls) : DBox (w.alloc (.cells #[.string safe, .slice aa ls.length cp] T)) w.heap.size safe aa cp ls :=
  ⟨by rw [World.cell?_alloc_new]; rfl, by rw [World.cell?_alloc_new]; rfl, hl.below ((Below.refl _ _).alloc (Nat.le_refl _) _)⟩
theorem DBox.later {X : World} {B : Nat} {safe : ByteArray} {aa : Option Addr} {cp : Nat} {ls : List Ln} (h : DBox X B safe aa cp ls) (n : Later X) : DBox n.world B safe aa cp ls := h.below n.below
theorem Sized.each {safe : ByteArray} {ls : List Ln} (h : Sized safe ls) : ∀ i (hi : i < ls.length), ls[i].data.size ≤ 1048576 ∧ ls[i].sent.size ≤ 1048576 := fun i hi => by
  have := h.2.2 ls[i] (List.getElem_mem hi)
  omega
theorem ok_sized {safe : ByteArray} {ls : List Ln} (h : DevOk safe ls) : Sized safe ls := by
  obtain ⟨z1, z2, z3⟩ := ok_sizes h
  exact ⟨by omega, by omega, z3⟩
/-- A device and a flag come back, in new memory. -/
def Back (st : ByteArray) (L : List Ln) (ok : Bool) (w : World) (e : Ending) (w' : World) : Prop := ∃ aa cp, e = .returned (.tuple #[.agg #[.string st, .slice aa L.length cp], .bool ok]) ∧ Lines w' aa L ∧ Below w.heap.size w w'
theorem no_lines (w : World) : Lines w none [] := fun i hi => by simp at hi
theorem iFlush (w : World) (safe : ByteArray) (a : Option Addr) (cap : Nat) (ls : List Ln) (p : Int) (hl : Lines w a ls) (hok : DevOk safe ls) (h0 : 0 ≤ p) (h1 : p < ((safe.size / 64 : Nat) : Int)) :
    Calls Try.prog 19 #[.agg #[.string safe, .slice a ls.length cap], .int .i64 p] w (Back safe (flushL ls p) true w) := by
  have hz := ok_sized hok
  refine (impl_flush w safe a cap ls p (by have := hz.1; omega) (by have := hz.2.1; omega) hl hz.each hok h0 h1).mono ?_
  rintro e w' ⟨u, rfl, ho, hb⟩
  obtain ⟨aa, g, cp, rfl, _, _, h4, _⟩ := lines_of_row ho
  exact ⟨aa, cp, rfl, h4, hb⟩
theorem iFlush_no (w : World) (safe : ByteArray) (a : Option Addr) (cap : Nat) (ls : List Ln) (p : Int) (hl : Lines w a ls) (hz : Sized safe ls) (hbad : ¬ (DevOk safe ls ∧ 0 ≤ p ∧ p < ((safe.size / 64 : Nat) : Int))) (L : List Ln) (hL : L = []) :
    Calls Try.prog 19 #[.agg #[.string safe, .slice a ls.length cap], .int .i64 p] w (Back ⟨#[]⟩ L false w) := by
  subst hL
  refine (impl_flush_no w safe a cap ls p (by have := hz.1; omega) (by have := hz.2.1; omega) hl hz.each hbad).mono ?_
  rintro e w' ⟨rfl, hb⟩
  exact ⟨none, 0, rfl, no_lines _, hb⟩
theorem sFlush (w : World) (safe : ByteArray) (a : Option Addr) (cap : Nat) (ls : List Ln) (p : Int) (hl : Lines w a ls) (hok : DevOk safe ls) (h0 : 0 ≤ p) (h1 : p < ((safe.size / 64 : Nat) : Int)) :
    Calls Try.prog 31 #[.agg #[.string safe, .slice a ls.length cap], .int .i64 p] w (Back safe (flushL ls p) true w) := by
  have hz := ok_sized hok
  refine (spec_flush w safe a cap ls p (by have := hz.1; omega) (by have := hz.2.1; omega) hl hz.each hok h0 h1).mono ?_
  rintro e w' ⟨aa, cp, rfl, h4, hb⟩
  rw [← flushL_len ls p]
  exact ⟨aa, cp, rfl, h4, hb⟩
theorem sFlush_no (w : World) (safe : ByteArray) (a : Option Addr) (cap : Nat) (ls : List Ln) (p : Int) (hl : Lines w a ls) (hz : Sized safe ls) (hbad : ¬ (DevOk safe ls ∧ 0 ≤ p ∧ p < ((safe.size / 64 : Nat) : Int))) (L : List Ln) (hL : L = []) :
    Calls Try.prog 31 #[.agg #[.string safe, .slice a ls.length cap], .int .i64 p] w (Back ⟨#[]⟩ L false w) := by
  subst hL
  refine (spec_flush_no w safe a cap ls p (by have := hz.1; omega) (by have := hz.2.1; omega) hl hz.each hbad).mono ?_
  rintro e w' ⟨rfl, hb⟩
  exact ⟨none, 0, rfl, no_lines _, hb⟩
theorem iEvict (w : World) (safe : ByteArray) (a : Option Addr) (cap : Nat) (ls : List Ln) (p : Int) (hl : Lines w a ls) (hok : DevOk safe ls) (h0 : 0 ≤ p) (h1 : p < ((safe.size / 64 : Nat) : Int)) :
    Calls Try.prog 27 #[.agg #[.string safe, .slice a ls.length cap], .int .i64 p] w (Back (evictS safe ls p) (evictL ls p) true w) := by
  have hz := ok_sized hok
  refine (impl_evict w safe a cap ls p (by have := hz.1; omega) (by have := hz.2.1; omega) hl hz.each hok h0 h1).mono ?_
  rintro e w' ⟨u, rfl, ho, hb⟩
  obtain ⟨aa, g, cp, rfl, _, _, h4, _⟩ := lines_of_row ho
  exact ⟨aa, cp, rfl, h4, hb⟩
theorem iEvict_no (w : World) (safe : ByteArray) (a : Option Addr) (cap : Nat) (ls : List Ln) (p : Int) (hl : Lines w a ls) (hz : Sized safe ls) (hbad : ¬ (DevOk safe ls ∧ 0 ≤ p ∧ p < ((safe.size / 64 : Nat) : Int))) (L : List Ln) (hL : L = []) :
    Calls Try.prog 27 #[.agg #[.string safe, .slice a ls.length cap], .int .i64 p] w (Back ⟨#[]⟩ L false w) := by
  subst hL
  refine (impl_evict_no w safe a cap ls p (by have := hz.1; omega) (by have := hz.2.1; omega) hl hz.each hbad).mono ?_
  rintro e w' ⟨rfl, hb⟩
  exact ⟨none, 0, rfl, no_lines _, hb⟩
theorem sEvict (w : World) (safe : ByteArray) (a : Option Addr) (cap : Nat) (ls : List Ln) (p : Int) (hl : Lines w a ls) (hok : DevOk safe ls) (h0 : 0 ≤ p) (h1 : p < ((safe.size / 64 : Nat) : Int)) :
    Calls Try.prog 28 #[.agg #[.string safe, .slice a ls.length cap], .int .i64 p] w (Back (evictS safe ls p) (evictL ls p) true w) := by
  have hz := ok_sized hok
  refine (spec_evict w safe a cap ls p (by have := hz.1; omega) (by have := hz.2.1; omega) hl hz.each hok h0 h1).mono ?_
  rintro e w' ⟨aa, cp, rfl, h4, hb⟩
  exact ⟨aa, cp, rfl, h4, hb⟩
theorem sEvict_no (w : World) (safe : ByteArray) (a : Option Addr) (cap : Nat) (ls : List Ln) (p : Int) (hl : Lines w a ls) (hz : Sized safe ls) (hbad : ¬ (DevOk safe ls ∧ 0 ≤ p ∧ p < ((safe.size / 64 : Nat) : Int))) (L : List Ln) (hL : L = []) :
    Calls Try.prog 28 #[.agg #[.string safe, .slice a ls.length cap], .int .i64 p] w (Back ⟨#[]⟩ L false w) := by
  subst hL
  refine (spec_evict_no w safe a cap ls p (by have := hz.1; omega) (by have := hz.2.1; omega) hl hz.each hbad).mono ?_
  rintro e w' ⟨rfl, hb⟩
  exact ⟨none, 0, rfl, no_lines _, hb⟩
theorem iStore (w : World) (safe : ByteArray) (a : Option Addr) (cap : Nat) (ls : List Ln) (A : Int) (p o : Nat) (d : ByteArray) (hA : A = ((64 * p + o : Nat) : Int)) (hl : Lines w a ls) (hok : DevOk safe ls) (hp : p < safe.size / 64) (hd0 : 1 ≤ d.size) (hd1 : o + d.size ≤ 64) :
    Calls Try.prog 11 #[.agg #[.string safe, .slice a ls.length cap], .int .i64 A, .string d] w (Back safe (storeL safe ls p o d) true w) := by
  have hz := ok_sized hok
  refine (impl_store w safe a cap ls A p o d hA (by have := hz.1; omega) (by have := hz.2.1; omega) hl hz.each hok hp hd0 hd1).mono ?_
  rintro e w' ⟨u, rfl, ho, hb⟩
  obtain ⟨aa, g, cp, rfl, _, _, h4, _⟩ := lines_of_row ho
  exact ⟨aa, cp, rfl, h4, hb⟩
theorem iStore_no (w : World) (safe : ByteArray) (a : Option Addr) (cap : Nat) (ls : List Ln) (x : Int) (d : ByteArray) (hd : d.size ≤ 1048576) (hx : x < 9223372036854775808) (hl : Lines w a ls) (hz : Sized safe ls) (hbad : ¬ (DevOk safe ls ∧ Fits safe x (d.size : Int))) (L : List Ln) (hL : L = []) :
    Calls Try.prog 11 #[.agg #[.string safe, .slice a ls.length cap], .int .i64 x, .string d] w (Back ⟨#[]⟩ L false w) := by
  subst hL
  refine (impl_store_no w safe a cap ls x d hd hx (by have := hz.1; omega) (by have := hz.2.1; omega) hl hz.each hbad).mono ?_
  rintro e w' ⟨rfl, hb⟩
  exact ⟨none, 0, rfl, no_lines _, hb⟩
theorem sStore (w : World) (safe : ByteArray) (a : Option Addr) (cap : Nat) (ls : List Ln) (A : Int) (p o : Nat) (d : ByteArray) (hA : A = ((64 * p + o : Nat) : Int)) (hl : Lines w a ls) (hok : DevOk safe ls) (hp : p < safe.size / 64) (hd0 : 1 ≤ d.size) (hd1 : o + d.size ≤ 64) :
    Calls Try.prog 12 #[.agg #[.string safe, .slice a ls.length cap], .int .i64 A, .string d] w (Back safe (storeL safe ls p o d) true w) := by
  have hz := ok_sized hok
  refine (spec_store w safe a cap ls A p o d hA (by have := hz.1; omega) (by have := hz.2.1; omega) hl hz.each hok hp hd0 hd1 (by omega)).mono ?_
  rintro e w' ⟨aa, cp, rfl, h4, hb⟩
  exact ⟨aa, cp, rfl, h4, hb⟩
theorem sStore_no (w : World) (safe : ByteArray) (a : Option Addr) (cap : Nat) (ls : List Ln) (x : Int) (d : ByteArray) (hd : d.size ≤ 1048576) (hx : x < 9223372036854775808) (hl : Lines w a ls) (hz : Sized safe ls) (hbad : ¬ (DevOk safe ls ∧ Fits safe x (d.size : Int))) (L : List Ln) (hL : L = []) :
    Calls Try.prog 12 #[.agg #[.string safe, .slice a ls.length cap], .int .i64 x, .string d] w (Back ⟨#[]⟩ L false w) := by
  subst hL
  refine (spec_store_no w safe a cap ls x d hd hx (by have := hz.1; omega) (by have := hz.2.1; omega) hl hz.each hbad).mono ?_
  rintro e w' ⟨rfl, hb⟩
  exact ⟨none, 0, rfl, no_lines _, hb⟩
theorem iSeen (w : World) (safe : ByteArray) (a : Option Addr) (cap : Nat) (ls : List Ln) (hl : Lines w a ls) (hok : DevOk safe ls) :
    Calls Try.prog 14 #[.agg #[.string safe, .slice a ls.length cap]] w fun e w' => e = .returned (.string (seenStr safe ls)) ∧ Below w.heap.size w w' := by
  have hz := ok_sized hok
  exact impl_seen w safe a cap ls (by have := hz.1; omega) (by have := hz.2.1; omega) hl hz.each hok
theorem sSeen (w : World) (safe : ByteArray) (a : Option Addr) (cap : Nat) (ls : List Ln) (hl : Lines w a ls) (hok : DevOk safe ls) :
    Calls Try.prog 10 #[.agg #[.string safe, .slice a ls.length cap]] w fun e w' => e = .returned (.string (seenStr safe ls)) ∧ Below w.heap.size w w' := by
  have hz := ok_sized hok
  exact spec_seen w safe a cap ls (by have := hz.1; omega) (by have := hz.2.1; omega) hl hz.each hok
theorem sSeen_some (safe : ByteArray) (ls : List Ln) (hz : Sized safe ls) : ∃ st : ByteArray, ∀ (w : World) (a : Option Addr) (cap : Nat), Lines w a ls → Calls Try.prog 10 #[.agg #[.string safe, .slice a ls.length cap]] w fun e w' => e = .returned (.string st) ∧ Below w.heap.size w w' := by
  by_cases hok : DevOk safe ls
  · exact ⟨_, fun w a cap hl => sSeen w safe a cap ls hl hok⟩
  · exact ⟨_, fun w a cap hl => spec_seen_no w safe a cap ls (by have := hz.1; omega) (by have := hz.2.1; omega) hl hz.each hok⟩
theorem iLoad (w : World) (safe : ByteArray) (a : Option Addr) (cap : Nat) (ls : List Ln) (p q : Nat) (hp : p + q ≤ safe.size) (hl : Lines w a ls) (hok : DevOk safe ls) :
    Calls Try.prog 15 #[.agg #[.string safe, .slice a ls.length cap], .int .i64 (p : Int), .int .i64 (q : Int)] w fun e w' => e = .returned (.tuple #[.string ((seenStr safe ls).extract p (p + q)), .bool true]) ∧ Below w.heap.size w w' := by
  have hz := ok_sized hok
  exact impl_load w safe a cap ls p q hp (by have := hz.1; omega) (by have := hz.2.1; omega) hl hz.each hok
theorem iOk (w : World) (safe : ByteArray) (a : Option Addr) (cap : Nat) (ls : List Ln) (hl : Lines w a ls) (hok : DevOk safe ls) :
    Calls Try.prog 16 #[.agg #[.string safe, .slice a ls.length cap]] w fun e w' => e = .returned (.bool true) ∧ Below w.heap.size w w' := by
  have hz := ok_sized hok
  refine (impl_ok w safe a cap ls (by have := hz.1; omega) (by have := hz.2.1; omega) hl hz.each).mono ?_
  rintro e w' ⟨b, rfl, hb, hbe⟩
  rw [hb.2 hok]
  exact ⟨rfl, hbe⟩
theorem seen_size {safe : ByteArray} {ls : List Ln} (h : DevOk safe ls) : (seenStr safe ls).size = safe.size := by
  unfold seenStr
  show (seenL safe.data.toList ls).toArray.size = _
  rw [List.size_toArray, seenL_all, putAll_len _ _ (datas_ok h), len_size]
theorem cut_get (s : ByteArray) (a b j : Nat) : (s.extract a b).data.toList[j]? = if j < b - a then s.data.toList[a + j]? else none := by
  rw [ByteArray.data_extract, Array.toList_extract, List.extract_eq_take_drop, List.getElem?_take]
  by_cases h : j < b - a
  · rw [if_pos h, if_pos h, List.getElem?_drop]
  · rw [if_neg h, if_neg h]
theorem with_ahead (s : ByteArray) (o : Nat) (d : ByteArray) (h : o + d.size ≤ s.size) : (withAt s o d).extract 0 o = s.extract 0 o := by
  refine bytes_ext (fun j => ?_)
  rw [cut_get, cut_get]
  by_cases hj : j < o - 0
  · rw [if_pos hj, if_pos hj, withAt_get s o d h, if_pos (by omega)]
  · rw [if_neg hj, if_neg hj]
theorem with_mid (s : ByteArray) (o : Nat) (d : ByteArray) (h : o + d.size ≤ s.size) : (withAt s o d).extract o (o + d.size) = d := by
  refine bytes_ext (fun j => ?_)
  rw [cut_get]
  by_cases hj : j < o + d.size - o
  · rw [if_pos hj, withAt_get s o d h, if_neg (by omega), if_pos (by omega)]
    congr 1
    omega
  · rw [if_neg hj, List.getElem?_eq_none (by rw [len_size]; omega)]
theorem with_behind (s : ByteArray) (o : Nat) (d : ByteArray) (h : o + d.size ≤ s.size) (n : Nat) : (withAt s o d).extract (o + d.size) n = s.extract (o + d.size) n := by
  refine bytes_ext (fun j => ?_)
  rw [cut_get, cut_get]
  by_cases hj : j < n - (o + d.size)
  · rw [if_pos hj, if_pos hj, withAt_get s o d h, if_neg (by omega), if_neg (by omega)]
  · rw [if_neg hj, if_neg hj]
end Go.Proofs.Ytgpmpijaggnocaa.dev
