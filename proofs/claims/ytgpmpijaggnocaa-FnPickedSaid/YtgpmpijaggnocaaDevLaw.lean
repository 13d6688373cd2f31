/-
  What the laws on devices say, of lists of bytes: a store, an eviction, flushes and a fence, and what is seen behind them.
-/
import Derived.Test.YtgpmpijaggnocaaDevMath
namespace Go.Proofs.Ytgpmpijaggnocaa.dev
open Go.RowKit
open bb later

theorem bytes_ext {s t : ByteArray} (h : ∀ j : Nat, s.data.toList[j]? = t.data.toList[j]?) : s = t := by
  obtain ⟨⟨l⟩⟩ := s
  obtain ⟨⟨m⟩⟩ := t
  have : l = m := List.ext_getElem? h
  rw [this]
theorem find_pairs (ls : List Ln) (f : Ln → List UInt8) (q : Int) : (ls.map fun l => (l.place, f l)).find? (fun (x : Int × List UInt8) => x.1 == q) = (findAt ls q).map fun l => (l.place, f l) := by
  unfold findAt
  rw [List.find?_map]
  rfl
/-- The byte j as it is seen. -/
def seenByte (safe : ByteArray) (ls : List Ln) (j : Nat) : Option UInt8 := match findAt ls ((j / 64 : Nat) : Int) with
  | some l => l.data.data.toList[j % 64]?
  | none => safe.data.toList[j]?
theorem seen_get {safe : ByteArray} {ls : List Ln} (h : DevOk safe ls) (j : Nat) : (seenL safe.data.toList ls)[j]? = seenByte safe ls j := by
  rw [seenL_all, putAll_get _ _ (datas_ok h)]
  unfold byteAll seenByte datas
  rw [find_pairs ls (fun l => l.data.data.toList)]
  cases hf : findAt ls ((j / 64 : Nat) : Int) with
  | none => rfl
  | some l =>
    have q3 := (((devOk_iff _ _).1 h).2.2 l (find_mem hf).1).2.2.1
    simp only [Option.map_some]
    rw [if_pos (by rw [len_size]; exact q3)]
theorem fence_get {safe : ByteArray} {ls : List Ln} (h : DevOk safe ls) (j : Nat) : (fenceS safe ls).data.toList[j]? = match findAt ls ((j / 64 : Nat) : Int) with
    | some l => if l.sent.size = 64 then l.sent.data.toList[j % 64]? else safe.data.toList[j]?
    | none => safe.data.toList[j]? := by
  unfold fenceS
  show (fenceB safe.data.toList ls).toArray.toList[j]? = _
  rw [List.toList_toArray, fenceB_all, putAll_get _ _ (sents_ok h)]
  unfold byteAll sents
  rw [find_pairs ls (fun l => l.sent.data.toList)]
  cases hf : findAt ls ((j / 64 : Nat) : Int) with
  | none => rfl
  | some l => simp only [Option.map_some, len_size]
theorem seenStr_ext {safe safe' : ByteArray} {ls ls' : List Ln} (h : DevOk safe ls) (h' : DevOk safe' ls') (he : ∀ j, seenByte safe ls j = seenByte safe' ls' j) : seenStr safe ls = seenStr safe' ls' := by
  unfold seenStr
  congr 2
  apply List.ext_getElem?
  intro j
  rw [seen_get h, seen_get h', he]
theorem withAt_get (s : ByteArray) (o : Nat) (d : ByteArray) (h : o + d.size ≤ s.size) (j : Nat) : (withAt s o d).data.toList[j]? = if j < o then s.data.toList[j]? else if j < o + d.size then d.data.toList[j - o]? else s.data.toList[j]? := by
  unfold withAt
  show (putAt s.data.toList o d.data.toList).toArray.toList[j]? = _
  rw [List.toList_toArray, putAt_get _ _ _ _ (by rw [len_size, len_size]; exact h), len_size]
theorem safeAt_get (safe : ByteArray) (j : Nat) (_h : 64 * (j / 64) + 64 ≤ safe.size) : (safeAt safe (j / 64)).data.toList[j % 64]? = safe.data.toList[j]? := by
  unfold safeAt
  rw [ByteArray.data_extract, Array.toList_extract, List.extract_eq_take_drop, List.getElem?_take, if_pos (by omega), List.getElem?_drop]
  congr 1
  omega
/-- A store: what is seen is what was seen, with the text at its place. -/
theorem store_seen {safe : ByteArray} {ls : List Ln} (h : DevOk safe ls) (p o : Nat) (d : ByteArray) (hp : p < safe.size / 64) (hd : o + d.size ≤ 64) :
    seenStr safe (storeL safe ls p o d) = withAt (seenStr safe ls) (64 * p + o) d := by
  have hz : (seenStr safe ls).size = safe.size := by
    unfold seenStr
    show (seenL safe.data.toList ls).toArray.size = _
    rw [List.size_toArray, seenL_all, putAll_len _ _ (datas_ok h), len_size]
  have hs := h.1
  have hst := store_ok h p o d hp hd
  apply bytes_ext
  intro j
  rw [withAt_get _ _ _ (by omega)]
  show (seenL safe.data.toList (storeL safe ls p o d)).toArray.toList[j]? = if _ then (seenL safe.data.toList ls).toArray.toList[j]? else if _ then _ else (seenL safe.data.toList ls).toArray.toList[j]?
  rw [List.toList_toArray, List.toList_toArray, seen_get hst, seen_get h]
  unfold seenByte
  rw [storeL_find]
  by_cases hj : ((j / 64 : Nat) : Int) = (p : Int)
  · rw [if_pos hj]
    have hjp : j / 64 = p := by omega
    subst hjp
    unfold storeNew
    cases hf : findAt ls ((j / 64 : Nat) : Int) with
    | some l =>
      have q3 := (((devOk_iff _ _).1 h).2.2 l (find_mem hf).1).2.2.1
      simp only
      rw [withAt_get _ _ _ (by omega)]
      by_cases h1 : j % 64 < o
      · rw [if_pos h1, if_pos (show j < 64 * (j / 64) + o by omega)]
      · rw [if_neg h1, if_neg (show ¬ j < 64 * (j / 64) + o by omega)]
        by_cases h2 : j % 64 < o + d.size
        · rw [if_pos h2, if_pos (show j < 64 * (j / 64) + o + d.size by omega)]
          congr 1
          omega
        · rw [if_neg h2, if_neg (show ¬ j < 64 * (j / 64) + o + d.size by omega)]
    | none =>
      have q3 := safeAt_size safe (j / 64) (by omega)
      simp only
      rw [withAt_get _ _ _ (by omega), safeAt_get safe j (by omega)]
      by_cases h1 : j % 64 < o
      · rw [if_pos h1, if_pos (show j < 64 * (j / 64) + o by omega)]
      · rw [if_neg h1, if_neg (show ¬ j < 64 * (j / 64) + o by omega)]
        by_cases h2 : j % 64 < o + d.size
        · rw [if_pos h2, if_pos (show j < 64 * (j / 64) + o + d.size by omega)]
          congr 1
          omega
        · rw [if_neg h2, if_neg (show ¬ j < 64 * (j / 64) + o + d.size by omega)]
  · rw [if_neg hj]
    by_cases h1 : j < 64 * p + o
    · rw [if_pos h1]
    · rw [if_neg h1, if_neg (by omega)]
theorem evict_seen {safe : ByteArray} {ls : List Ln} (h : DevOk safe ls) (p : Int) : seenStr (evictS safe ls p) (evictL ls p) = seenStr safe ls := by
  refine seenStr_ext (evict_ok h p) h (fun j => ?_)
  unfold seenByte
  rw [evictL_find]
  by_cases hj : ((j / 64 : Nat) : Int) = p
  · rw [if_pos hj]
    simp only
    unfold evictS
    rw [hj]
    cases hf : findAt ls p with
    | none => rfl
    | some l =>
      obtain ⟨hm, he⟩ := find_mem hf
      obtain ⟨q1, q2, q3, q4⟩ := ((devOk_iff _ _).1 h).2.2 l hm
      have hs := h.1
      simp only
      rw [withAt_get _ _ _ (by omega), if_neg (by omega), if_pos (by omega)]
      congr 1
      omega
  · rw [if_neg hj]
    cases hf : findAt ls ((j / 64 : Nat) : Int) with
    | some l => rfl
    | none =>
      simp only
      unfold evictS
      cases hg : findAt ls p with
      | none => rfl
      | some l =>
        obtain ⟨hm, he⟩ := find_mem hg
        obtain ⟨q1, q2, q3, q4⟩ := ((devOk_iff _ _).1 h).2.2 l hm
        have hs := h.1
        simp only
        rw [withAt_get _ _ _ (by omega)]
        by_cases h1 : j < 64 * p.toNat
        · rw [if_pos h1]
        · rw [if_neg h1, if_neg (by omega)]
theorem toList_eq {s t : ByteArray} (h : (s.toList == t.toList) = true) : s = t := by
  have h1 : s.toList = t.toList := by simpa using h
  rw [ByteArray.toList_eq, ByteArray.toList_eq] at h1
  exact bytes_ext (fun j => by rw [h1])
theorem fence_seen {safe : ByteArray} {ls : List Ln} (h : DevOk safe ls) : seenStr (fenceS safe ls) (fenceL ls) = seenStr safe ls := by
  refine seenStr_ext (fence_ok h) h (fun j => ?_)
  unfold seenByte
  rw [fenceL_find ls (ok_pairwise h), fence_get h]
  cases hf : findAt ls ((j / 64 : Nat) : Int) with
  | none => rfl
  | some l =>
    obtain ⟨q1, q2, q3, q4⟩ := ((devOk_iff _ _).1 h).2.2 l (find_mem hf).1
    simp only [Option.bind_some]
    unfold fenceLn
    by_cases he : (l.data.toList == l.sent.toList) = true
    · rw [if_pos he]
      have := toList_eq he
      simp only
      rw [← this, if_pos q3]
    · rw [if_neg he]
theorem fence_twice {safe : ByteArray} {ls : List Ln} (h : DevOk safe ls) : fenceL (fenceL ls) = fenceL ls ∧ fenceS (fenceS safe ls) (fenceL ls) = fenceS safe ls := by
  have hm : ∀ l ∈ fenceL ls, l.data.size = 64 ∧ l.sent = ⟨#[]⟩ := fun l hl => by
    unfold fenceL at hl
    obtain ⟨x, hx, he⟩ := List.mem_filterMap.1 hl
    obtain ⟨q1, q2, q3, q4⟩ := ((devOk_iff _ _).1 h).2.2 x hx
    unfold fenceLn at he
    split at he
    · cases he
    · cases he
      exact ⟨q3, rfl⟩
  constructor
  · have hall : ∀ l ∈ fenceL ls, fenceLn l = some l := fun l hl => by
      obtain ⟨h1, h2⟩ := hm l hl
      unfold fenceLn
      rw [if_neg]
      · obtain ⟨p, d, s⟩ := l
        simp only at h2
        rw [h2]
      · intro q
        have := toList_eq q
        rw [this, h2] at h1
        cases h1
    generalize fenceL ls = L at hall
    unfold fenceL
    induction L with
    | nil => rfl
    | cons l t ih =>
      rw [List.filterMap_cons, hall l (List.mem_cons_self ..)]
      simp only
      rw [ih (fun x hx => hall x (List.mem_cons_of_mem _ hx))]
  · apply bytes_ext
    intro j
    rw [fence_get (fence_ok h)]
    cases hf : findAt (fenceL ls) ((j / 64 : Nat) : Int) with
    | none => rfl
    | some l =>
      have h2 := (hm l (find_mem hf).1).2
      simp only
      rw [if_neg (by rw [h2]; decide)]
/-- The lines of which the first ones are flushed. -/
def flushTo (ls : List Ln) (n : Int) : List Ln := ls.map fun l => if l.place < n then ⟨l.place, l.data, l.data⟩ else l
theorem flushTo_zero {safe : ByteArray} {ls : List Ln} (h : DevOk safe ls) : flushTo ls 0 = ls := by
  unfold flushTo
  conv => rhs; rw [← List.map_id ls]
  refine List.map_congr_left (fun l hl => ?_)
  obtain ⟨q1, _⟩ := ((devOk_iff _ _).1 h).2.2 l hl
  rw [if_neg (by omega)]
  rfl
theorem flushTo_succ (ls : List Ln) (n : Int) : flushL (flushTo ls n) n = flushTo ls (n + 1) := by
  unfold flushL flushTo
  rw [List.map_map]
  refine List.map_congr_left (fun l _ => ?_)
  simp only [Function.comp]
  unfold flushLn
  by_cases h1 : l.place < n
  · rw [if_pos h1, if_neg (by simp only; omega), if_pos (by omega)]
  · rw [if_neg h1]
    by_cases h2 : l.place = n
    · rw [if_pos h2, if_pos (by omega)]
    · rw [if_neg h2, if_neg (by omega)]
theorem flushTo_len (ls : List Ln) (n : Int) : (flushTo ls n).length = ls.length := by simp [flushTo]
theorem flushTo_all {safe : ByteArray} {ls : List Ln} (h : DevOk safe ls) : fenceL (flushTo ls ((safe.size / 64 : Nat) : Int)) = [] ∧ fenceS safe (flushTo ls ((safe.size / 64 : Nat) : Int)) = seenStr safe ls := by
  have hm : flushTo ls ((safe.size / 64 : Nat) : Int) = ls.map fun l => ⟨l.place, l.data, l.data⟩ := by
    unfold flushTo
    refine List.map_congr_left (fun l hl => ?_)
    obtain ⟨q1, q2, _⟩ := ((devOk_iff _ _).1 h).2.2 l hl
    rw [if_pos q2]
  rw [hm]
  constructor
  · unfold fenceL
    rw [List.filterMap_eq_nil_iff]
    intro x hx
    obtain ⟨l, hl, rfl⟩ := List.mem_map.1 hx
    unfold fenceLn
    rw [if_pos (by simp)]
  · unfold fenceS seenStr
    congr 2
    rw [fenceB_all, seenL_all]
    unfold sents datas
    rw [List.map_map]
    rfl
theorem flush_seen {safe : ByteArray} {ls : List Ln} (p : Int) : seenStr safe (flushL ls p) = seenStr safe ls := by
  unfold seenStr
  congr 2
  rw [seenL_all, seenL_all]
  unfold datas flushL
  rw [List.map_map]
  congr 1
  refine List.map_congr_left (fun l _ => ?_)
  simp only [Function.comp]
  unfold flushLn
  split <;> rfl
theorem flush_swap (ls : List Ln) (p q : Int) : flushL (flushL ls p) q = flushL (flushL ls q) p := by
  unfold flushL
  rw [List.map_map, List.map_map]
  refine List.map_congr_left (fun l _ => ?_)
  obtain ⟨a, b, c⟩ := l
  simp only [Function.comp]
  have e : ∀ x y z r, flushLn r ⟨x, y, z⟩ = ⟨x, y, if x = r then y else z⟩ := fun x y z r => by unfold flushLn; split <;> simp_all
  simp only [e]
  by_cases h1 : a = p
  · by_cases h2 : a = q
    · simp only [if_pos h1, if_pos h2]
    · simp only [if_pos h1, if_neg h2]
  · by_cases h2 : a = q
    · simp only [if_neg h1, if_pos h2]
    · simp only [if_neg h1, if_neg h2]
theorem risk_not (safe : ByteArray) (ls : List Ln) (p : Int) : p ∉ riskL safe (evictL ls p) := by
  intro h
  unfold riskL at h
  obtain ⟨l, hl, he⟩ := List.mem_map.1 h
  have h1 := (List.mem_filter.1 hl).1
  have h2 := (List.mem_filter.1 h1).2
  simp at h2
  exact h2 he
end Go.Proofs.Ytgpmpijaggnocaa.dev
