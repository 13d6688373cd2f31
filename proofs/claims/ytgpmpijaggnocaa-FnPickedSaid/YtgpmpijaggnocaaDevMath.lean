/-
  Devices as lists of bytes: what is seen of each byte; a right device stays right behind a store, a flush, a fence and an eviction.
-/
import Derived.Test.YtgpmpijaggnocaaStore1
import Derived.Test.YtgpmpijaggnocaaFlush2
import Derived.Test.YtgpmpijaggnocaaFence1
import Derived.Test.YtgpmpijaggnocaaCrash1
namespace Go.Proofs.Ytgpmpijaggnocaa.dev
open Go.RowKit
open bb later

theorem len_size (t : ByteArray) : t.data.toList.length = t.size := by simp
/-- What every line of a right device is. -/
def LineOk (n : Nat) (l : Ln) : Prop := 0 ≤ l.place ∧ l.place < (n : Int) ∧ l.data.size = 64 ∧ (l.sent.size = 64 ∨ l.sent.size = 0)
theorem devOk_iff (safe : ByteArray) (ls : List Ln) : DevOk safe ls ↔ (safe.size % 64 = 0 ∧ 64 ≤ safe.size ∧ safe.size ≤ 8192) ∧ ls.Pairwise (fun a b => a.place < b.place) ∧ ∀ l ∈ ls, LineOk (safe.size / 64) l := by
  constructor
  · intro h
    refine ⟨⟨h.1, h.2.1, h.2.2.1⟩, ok_pairwise h, fun l hl => ?_⟩
    obtain ⟨i, hi, rfl⟩ := List.getElem_of_mem hl
    obtain ⟨_, h1, h2, h3, h4⟩ := h.2.2.2 i hi
    exact ⟨h1, h2, h3, h4⟩
  · rintro ⟨⟨h1, h2, h3⟩, hp, hl⟩
    refine ⟨h1, h2, h3, fun k hk => ?_⟩
    obtain ⟨q1, q2, q3, q4⟩ := hl ls[k] (List.getElem_mem hk)
    refine ⟨?_, q1, q2, q3, q4⟩
    unfold prevOf
    split
    · rename_i h
      exact (List.pairwise_iff_getElem.1 hp) (k - 1) k h.2 hk (by omega)
    · omega
theorem flush_ok {safe : ByteArray} {ls : List Ln} (h : DevOk safe ls) (p : Int) : DevOk safe (flushL ls p) := by
  rw [devOk_iff] at h ⊢
  refine ⟨h.1, flushL_sorted ls p h.2.1, fun l hl => ?_⟩
  unfold flushL at hl
  obtain ⟨x, hx, rfl⟩ := List.mem_map.1 hl
  obtain ⟨q1, q2, q3, q4⟩ := h.2.2 x hx
  unfold flushLn
  split
  · exact ⟨q1, q2, q3, .inl q3⟩
  · exact ⟨q1, q2, q3, q4⟩
theorem find_mem {ls : List Ln} {p : Int} {l : Ln} (h : findAt ls p = some l) : l ∈ ls ∧ l.place = p := by
  unfold findAt at h
  exact ⟨List.mem_of_find?_eq_some h, by simpa using List.find?_some h⟩
theorem evictS_size {safe : ByteArray} {ls : List Ln} (h : DevOk safe ls) (p : Int) : (evictS safe ls p).size = safe.size := by
  unfold evictS
  split
  · rename_i l hl
    obtain ⟨hm, hp⟩ := find_mem hl
    obtain ⟨q1, q2, q3, q4⟩ := ((devOk_iff _ _).1 h).2.2 l hm
    have h1 := h.1
    exact withAt_size _ _ _ (by omega)
  · rfl
theorem evict_ok {safe : ByteArray} {ls : List Ln} (h : DevOk safe ls) (p : Int) : DevOk (evictS safe ls p) (evictL ls p) := by
  have hz := evictS_size h p
  rw [devOk_iff] at h ⊢
  rw [hz]
  exact ⟨h.1, evictL_sorted ls p h.2.1, fun l hl => h.2.2 l (List.mem_filter.1 hl).1⟩
theorem fenceS_size {safe : ByteArray} {ls : List Ln} (h : DevOk safe ls) : (fenceS safe ls).size = safe.size := by
  have := fence_len h ls.length
  rw [List.take_length] at this
  unfold fenceS
  show (fenceB safe.data.toList ls).toArray.size = _
  rw [List.size_toArray]
  exact this
theorem fence_ok {safe : ByteArray} {ls : List Ln} (h : DevOk safe ls) : DevOk (fenceS safe ls) (fenceL ls) := by
  have hz := fenceS_size h
  rw [devOk_iff] at h ⊢
  rw [hz]
  refine ⟨h.1, fenceL_sorted ls h.2.1, fun l hl => ?_⟩
  unfold fenceL at hl
  obtain ⟨x, hx, he⟩ := List.mem_filterMap.1 hl
  obtain ⟨q1, q2, q3, q4⟩ := h.2.2 x hx
  unfold fenceLn at he
  split at he
  · cases he
  · cases he
    exact ⟨q1, q2, q3, .inr rfl⟩
theorem safeAt_size (safe : ByteArray) (p : Nat) (h : 64 * p + 64 ≤ safe.size) : (safeAt safe p).size = 64 := by
  unfold safeAt
  simp
  omega
theorem store_ok {safe : ByteArray} {ls : List Ln} (h : DevOk safe ls) (p o : Nat) (d : ByteArray) (hp : p < safe.size / 64) (hd : o + d.size ≤ 64) : DevOk safe (storeL safe ls p o d) := by
  have h' := h
  rw [devOk_iff] at h ⊢
  refine ⟨h.1, storeL_sorted safe ls p o d h.2.1, fun l hl => ?_⟩
  unfold storeL at hl
  simp only [List.mem_append, List.mem_filter, List.mem_singleton] at hl
  rcases hl with (hl | hl) | hl
  · exact h.2.2 l hl.1
  · subst hl
    have hpl := storeNew_place safe ls p o d
    unfold storeNew at hpl ⊢
    split
    · rename_i x hx
      obtain ⟨hm, he⟩ := find_mem hx
      obtain ⟨q1, q2, q3, q4⟩ := h.2.2 x hm
      refine ⟨q1, q2, ?_, q4⟩
      rw [withAt_size _ _ _ (by omega)]
      exact q3
    · have hs := safeAt_size safe p (by omega)
      refine ⟨by simp, by simp; omega, ?_, .inr rfl⟩
      rw [withAt_size _ _ _ (by omega)]
      exact hs
  · exact h.2.2 l hl.1

/-- Texts put at lines, one after the other. -/
def putAll (safe : List UInt8) (ps : List (Int × List UInt8)) : List UInt8 := ps.foldl (fun acc x => putAt acc (64 * x.1.toNat) x.2) safe
def PutOk (n : Nat) (ps : List (Int × List UInt8)) : Prop := ps.Pairwise (fun a b => a.1 < b.1) ∧ ∀ x ∈ ps, 0 ≤ x.1 ∧ 64 * x.1.toNat + 64 ≤ n ∧ (x.2.length = 64 ∨ x.2.length = 0)
/-- The byte j behind these. -/
def byteAll (safe : List UInt8) (ps : List (Int × List UInt8)) (j : Nat) : Option UInt8 := match ps.find? (fun x => x.1 == ((j / 64 : Nat) : Int)) with
  | some x => if x.2.length = 64 then x.2[j % 64]? else safe[j]?
  | none => safe[j]?
theorem putAll_get : ∀ (ps : List (Int × List UInt8)) (safe : List UInt8), PutOk safe.length ps → ∀ j, (putAll safe ps)[j]? = byteAll safe ps j := by
  intro ps
  induction ps with
  | nil => intro safe _ j; rfl
  | cons x t ih =>
    intro safe h j
    obtain ⟨hp, hm⟩ := h
    rw [List.pairwise_cons] at hp
    obtain ⟨h0, h1, h2⟩ := hm x (List.mem_cons_self ..)
    have hl : (putAt safe (64 * x.1.toNat) x.2).length = safe.length := putAt_len _ _ _ (by omega)
    have hg : ∀ j, (putAt safe (64 * x.1.toNat) x.2)[j]? = _ := fun j => putAt_get safe (64 * x.1.toNat) x.2 j (by omega)
    have e : putAll safe (x :: t) = putAll (putAt safe (64 * x.1.toNat) x.2) t := rfl
    rw [e, ih _ ⟨hp.2, fun y hy => by rw [hl]; exact hm y (List.mem_cons_of_mem _ hy)⟩ j]
    unfold byteAll
    rw [List.find?_cons]
    by_cases hx : x.1 = ((j / 64 : Nat) : Int)
    · have hn : t.find? (fun x => x.1 == ((j / 64 : Nat) : Int)) = none := by
        rw [List.find?_eq_none]
        intro y hy
        have := hp.1 y hy
        simp
        omega
      have hb : (x.1 == ((j / 64 : Nat) : Int)) = true := by simpa using hx
      rw [hn, hb, hg]
      have hxn : x.1.toNat = j / 64 := by omega
      simp only
      rcases h2 with h2 | h2
      · rw [if_neg (by omega), if_pos (by omega), if_pos h2]
        congr 1
        omega
      · rw [h2, if_neg (by omega), if_neg (by omega), if_neg (by omega)]
    · have hb : (x.1 == ((j / 64 : Nat) : Int)) = false := by simpa using hx
      rw [hb]
      have hs : (putAt safe (64 * x.1.toNat) x.2)[j]? = safe[j]? := by
        rw [hg]
        by_cases hlt : j < 64 * x.1.toNat
        · rw [if_pos hlt]
        · rw [if_neg hlt, if_neg (by omega)]
      rw [hs]
theorem putAll_len (ps : List (Int × List UInt8)) : ∀ (safe : List UInt8), PutOk safe.length ps → (putAll safe ps).length = safe.length := by
  induction ps with
  | nil => intro safe _; rfl
  | cons x t ih =>
    intro safe h
    obtain ⟨hp, hm⟩ := h
    rw [List.pairwise_cons] at hp
    obtain ⟨h0, h1, h2⟩ := hm x (List.mem_cons_self ..)
    have hl : (putAt safe (64 * x.1.toNat) x.2).length = safe.length := putAt_len _ _ _ (by omega)
    have e : putAll safe (x :: t) = putAll (putAt safe (64 * x.1.toNat) x.2) t := rfl
    rw [e, ih _ ⟨hp.2, fun y hy => by rw [hl]; exact hm y (List.mem_cons_of_mem _ hy)⟩, hl]
def datas (ls : List Ln) : List (Int × List UInt8) := ls.map fun l => (l.place, l.data.data.toList)
def sents (ls : List Ln) : List (Int × List UInt8) := ls.map fun l => (l.place, l.sent.data.toList)
def kepts (ls : List Ln) (ks : List Int) : List (Int × List UInt8) := (ls.zip ks).map fun x => (x.1.place, (keptT x.1 x.2).data.toList)
theorem seenL_all (safe : List UInt8) (ls : List Ln) : seenL safe ls = putAll safe (datas ls) := by
  unfold seenL putAll datas; rw [List.foldl_map]
theorem fenceB_all (safe : List UInt8) (ls : List Ln) : fenceB safe ls = putAll safe (sents ls) := by
  unfold fenceB putAll sents; rw [List.foldl_map]
theorem crashL_all (safe : List UInt8) (ls : List Ln) (ks : List Int) : crashL safe (ls.zip ks) = putAll safe (kepts ls ks) := by
  unfold crashL putAll kepts; rw [List.foldl_map]
theorem datas_ok {safe : ByteArray} {ls : List Ln} (h : DevOk safe ls) : PutOk safe.data.toList.length (datas ls) := by
  rw [devOk_iff] at h
  refine ⟨?_, ?_⟩
  · unfold datas; rw [List.pairwise_map]; exact h.2.1
  · intro x hx
    unfold datas at hx
    obtain ⟨l, hl, rfl⟩ := List.mem_map.1 hx
    obtain ⟨q1, q2, q3, q4⟩ := h.2.2 l hl
    have hs := len_size safe
    have hd : l.data.data.toList.length = 64 := by rw [len_size, q3]
    have := h.1.1
    exact ⟨q1, by simp only; omega, .inl hd⟩
theorem sents_ok {safe : ByteArray} {ls : List Ln} (h : DevOk safe ls) : PutOk safe.data.toList.length (sents ls) := by
  rw [devOk_iff] at h
  refine ⟨?_, ?_⟩
  · unfold sents; rw [List.pairwise_map]; exact h.2.1
  · intro x hx
    unfold sents at hx
    obtain ⟨l, hl, rfl⟩ := List.mem_map.1 hx
    obtain ⟨q1, q2, q3, q4⟩ := h.2.2 l hl
    have hs := len_size safe
    have hd := len_size l.sent
    have := h.1.1
    exact ⟨q1, by simp only; omega, by simp only; omega⟩
theorem kepts_ok {safe : ByteArray} {ls : List Ln} (h : DevOk safe ls) (ks : List Int) : PutOk safe.data.toList.length (kepts ls ks) := by
  rw [devOk_iff] at h
  refine ⟨?_, ?_⟩
  · unfold kepts
    rw [List.pairwise_iff_getElem]
    intro i j hi hj hij
    simp only [List.length_map, List.length_zip] at hi hj
    simp only [List.getElem_map, List.getElem_zip]
    exact (List.pairwise_iff_getElem.1 h.2.1) i j (by omega) (by omega) hij
  · intro x hx
    unfold kepts at hx
    obtain ⟨y, hy, rfl⟩ := List.mem_map.1 hx
    obtain ⟨l, k⟩ := y
    have hl := (List.of_mem_zip hy).1
    obtain ⟨q1, q2, q3, q4⟩ := h.2.2 l hl
    have hs := len_size safe
    have := h.1.1
    refine ⟨q1, by simp only; omega, ?_⟩
    have hd := len_size (keptT l k)
    simp only
    rw [hd]
    unfold keptT
    split
    · exact .inl q3
    · split
      · exact q4
      · exact .inr rfl
end Go.Proofs.Ytgpmpijaggnocaa.dev
