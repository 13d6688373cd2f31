/-
  What is left of each line behind a loss of power, as lists of bytes; what is kept of lines, drawn.
-/
import Derived.Test.YtgpmpijaggnocaaDBoxF
import Derived.Test.YtgpmpijaggnocaaSameDev
import Derived.Test.YtgpmpijaggnocaaCrash2
namespace Go.Proofs.Ytgpmpijaggnocaa.dev
open Go.RowKit Go.Maps
open later rd

theorem find_of_mem {ps : List (Int × List UInt8)} (hp : ps.Pairwise (fun a b => a.1 < b.1)) {x : Int × List UInt8} (hx : x ∈ ps) : ps.find? (fun y => y.1 == x.1) = some x := by
  induction ps with
  | nil => cases hx
  | cons y t ih =>
    rw [List.pairwise_cons] at hp
    rw [List.find?_cons]
    rcases List.mem_cons.1 hx with h | h
    · subst h
      simp
    · have := hp.1 x h
      have e : (y.1 == x.1) = false := by simp; omega
      rw [e]
      exact ih hp.2 h
theorem crash_get {safe : ByteArray} {ls : List Ln} (h : DevOk safe ls) (ks : List Int) (j : Nat) : (crashStr safe ls ks).data.toList[j]? = byteAll safe.data.toList (kepts ls ks) j := by
  unfold crashStr
  show (crashL safe.data.toList (ls.zip ks)).toArray.toList[j]? = _
  rw [List.toList_toArray, crashL_all, putAll_get _ _ (kepts_ok h ks)]
theorem crash_size {safe : ByteArray} {ls : List Ln} (h : DevOk safe ls) (ks : List Int) : (crashStr safe ls ks).size = safe.size := by
  unfold crashStr
  show (crashL safe.data.toList (ls.zip ks)).toArray.size = _
  rw [List.size_toArray, crashL_all, putAll_len _ _ (kepts_ok h ks), len_size]
theorem cut_get2 (s : ByteArray) (a b j : Nat) : (s.extract a b).data.toList[j]? = if j < b - a then s.data.toList[a + j]? else none := by
  rw [ByteArray.data_extract, Array.toList_extract, List.extract_eq_take_drop, List.getElem?_take]
  by_cases h : j < b - a
  · rw [if_pos h, if_pos h, List.getElem?_drop]
  · rw [if_neg h, if_neg h]
/-- Each line is what was seen, what was safe, or what was sent. -/
theorem picked {safe : ByteArray} {ls : List Ln} (h : DevOk safe ls) (ks : List Int) (i : Nat) (hi : i < ls.length) :
    (crashStr safe ls ks).extract (64 * ls[i].place.toNat) (64 * ls[i].place.toNat + 64) = ls[i].data ∨ (crashStr safe ls ks).extract (64 * ls[i].place.toNat) (64 * ls[i].place.toNat + 64) = safe.extract (64 * ls[i].place.toNat) (64 * ls[i].place.toNat + 64) ∨ (crashStr safe ls ks).extract (64 * ls[i].place.toNat) (64 * ls[i].place.toNat + 64) = ls[i].sent := by
  obtain ⟨q1, q2, q3, q4⟩ := ((devOk_iff _ _).1 h).2.2 ls[i] (List.getElem_mem hi)
  have hp := ((devOk_iff _ _).1 h).2.1
  have hko := kepts_ok h ks
  have hj : ∀ j : Nat, j < 64 → (((64 * ls[i].place.toNat + j) / 64 : Nat) : Int) = ls[i].place ∧ (64 * ls[i].place.toNat + j) % 64 = j := fun j hj => by omega
  by_cases hk : i < ks.length
  · have hmem : (ls[i].place, (keptT ls[i] ks[i]).data.toList) ∈ kepts ls ks := by
      unfold kepts
      refine List.mem_map.2 ⟨(ls[i], ks[i]), ?_, rfl⟩
      rw [List.mem_iff_getElem]
      exact ⟨i, by rw [List.length_zip]; omega, by simp⟩
    have hf := find_of_mem hko.1 hmem
    simp only at hf
    have hget : ∀ j : Nat, j < 64 → (crashStr safe ls ks).data.toList[64 * ls[i].place.toNat + j]? = if (keptT ls[i] ks[i]).data.toList.length = 64 then (keptT ls[i] ks[i]).data.toList[j]? else safe.data.toList[64 * ls[i].place.toNat + j]? := fun j h64 => by
      rw [crash_get h]
      unfold byteAll
      rw [(hj j h64).1, (hj j h64).2, hf]
    by_cases h64 : (keptT ls[i] ks[i]).size = 64
    · have hx : (crashStr safe ls ks).extract (64 * ls[i].place.toNat) (64 * ls[i].place.toNat + 64) = keptT ls[i] ks[i] := by
        refine bytes_ext (fun j => ?_)
        rw [cut_get2]
        by_cases hj2 : j < 64
        · rw [if_pos (by omega), hget j hj2, if_pos (by rw [len_size]; exact h64)]
        · rw [if_neg (by omega), List.getElem?_eq_none (by rw [len_size]; omega)]
      rw [hx]
      unfold keptT
      split
      · exact .inl rfl
      · split
        · exact .inr (.inr rfl)
        · rename_i n1 n2
          unfold keptT at h64
          rw [if_neg n1, if_neg n2] at h64
          cases h64
    · refine .inr (.inl (bytes_ext (fun j => ?_)))
      rw [cut_get2, cut_get2]
      by_cases hj2 : j < 64
      · rw [if_pos (by omega), if_pos (by omega), hget j hj2, if_neg (by rw [len_size]; exact h64)]
      · rw [if_neg (by omega), if_neg (by omega)]
  · have hf : (kepts ls ks).find? (fun y => y.1 == ls[i].place) = none := by
      rw [List.find?_eq_none]
      intro y hy
      unfold kepts at hy
      obtain ⟨z, hz, rfl⟩ := List.mem_map.1 hy
      obtain ⟨m, hm, rfl⟩ := List.getElem_of_mem hz
      rw [List.length_zip] at hm
      simp only [List.getElem_zip]
      have := (List.pairwise_iff_getElem.1 hp) m i (by omega) hi (by omega)
      simp
      omega
    refine .inr (.inl (bytes_ext (fun j => ?_)))
    rw [cut_get2, cut_get2]
    by_cases hj2 : j < 64
    · rw [if_pos (by omega), if_pos (by omega), crash_get h]
      unfold byteAll
      rw [(hj j hj2).1, hf]
    · rw [if_neg (by omega), if_neg (by omega)]
theorem crash_none (safe : ByteArray) (ls : List Ln) : crashStr safe ls [] = safe := by
  unfold crashStr
  rw [List.zip_nil_right]
  rfl
theorem crash_all (safe : ByteArray) (ls : List Ln) : crashStr safe ls (List.replicate ls.length 2) = seenStr safe ls := by
  unfold crashStr seenStr
  congr 2
  rw [crashL_all, seenL_all]
  congr 1
  unfold kepts datas
  apply List.ext_getElem
  · simp
  · intro n h1 h2
    simp [keptT]
theorem own_drawn {w w' : World} {base R : Nat} {e : TypeId} {size : Nat} {v : Value} {n : Nat} {xs : List Value} (h : w.ownsRow base e size v n xs) (hg : w.grownBy w' (some R)) (hR : R < base) : w'.ownsRow base e size v n xs :=
  h.kept hg (by
    rcases hv : v.ownBlock with _ | k
    · exact .inl rfl
    · exact .inr (fun q => by have := (h.lt k hv).1; simp at q; omega))
theorem own_form {w : World} {base : Nat} {e : TypeId} {v : Value} {n : Nat} {xs : List Value} (h : w.ownsRow base e 1 v n xs) : (v = .slice none 0 0 ∧ n = 0) ∨ ∃ g cap, v = .slice (some ⟨g, 0, none⟩) n cap ∧ base ≤ g ∧ n ≤ cap ∧ cap ≤ maxLen := by
  rcases h.2 with h1 | ⟨g, cap, cur, h1, h2, h3, h4, h5, _⟩
  · exact .inl h1
  · exact .inr ⟨g, cap, h1, h2, h4, h5⟩
theorem grown_past {a w w' : World} {R B : Nat} (h : a.grownBy w (some R)) (hb : Below B w w') (hB : a.heap.size ≤ B) : a.grownBy w' (some R) :=
  ⟨hb.os.trans h.os, hb.tape.trans h.tape, hb.output.trans h.output, Nat.le_trans h.size hb.size, fun k hk hn => (hb.block k (by omega)).trans (h.block k hk hn)⟩
/-- What is kept of lines: some numbers, in new memory. -/
def Kept (w : World) (R : Nat) (a : Option Addr) (len cap : Nat) (e : Ending) (w' : World) : Prop :=
  ∃ (ks : List Int) (aa : Option Addr) (cp : Nat), e = .returned (.slice aa ks.length cp) ∧ ks.length ≤ 130 ∧ Nums w' aa ks ∧ (∀ b off, aa = some ⟨b, off, none⟩ → 0 < ks.length → w.heap.size ≤ b) ∧ Rd w' R a len cap ∧ w.grownBy w' (some R)
theorem kept_of {w wr : World} {R : Nat} {a : Option Addr} {len cap : Nat} {v : Value} {xs : List Int} (hx : xs.length ≤ 130) (ho : wr.ownsRow w.heap.size 2 1 v xs.length (xs.map (Value.int .i64))) (hr : Rd wr R a len cap) (hg : w.grownBy wr (some R)) : Kept w R a len cap (.returned v) wr := by
  obtain ⟨aa, g, cp, rfl, hg2, hi⟩ := ints_of_row ho
  refine ⟨xs, aa, cp, rfl, hx, hi.nums, fun b off e hp => ?_, hr, hg⟩
  have := (hi 0 hp).1
  rw [e] at this
  injection this with q
  injection q with q1
  omega
set_option maxHeartbeats 4000000 in
theorem keep_any (w : World) (R : Nat) (a : Option Addr) (len cap : Nat) (h : Rd w R a len cap) (n : Nat) (hn : n ≤ 129) :
    Calls Try.prog 51 #[.pointer (some ⟨R, 0, none⟩), .int .i64 (n : Int)] w (Kept w R a len cap) := by
  have HR : Hid (Rd w R a len cap) := h
  have hRsz := h.size
  clear h
  have HO0 : Hid ((w.alloc (.cells #[] 2)).ownsRow w.heap.size 2 1 (.slice (some ⟨w.heap.size, 0, none⟩) 0 0) 0 []) := ⟨rfl, .inr ⟨w.heap.size, 0, #[], rfl, Nat.le_refl _, heap_alloc_new w _, Nat.le_refl _, Nat.zero_le _, rfl, rfl⟩⟩
  go_enter Try.func51, Try.ntmps51
  go_wp2
  go_loopw [5, 6] (fun o i wr => ∃ xs : List Int, xs.length ≤ n ∧ i = .int .i64 (xs.length : Int) ∧ wr.ownsRow w.heap.size 2 1 o xs.length (xs.map (Value.int .i64)) ∧ Rd wr R a len cap ∧ w.grownBy wr (some R)) (fun _ i _ => n - (intOf i).toNat)
  case atStart => exact ⟨[], by simp, rfl, HO0.out, HR.out.alloc _, galloc (grefl _ _) _⟩
  case round =>
    obtain ⟨xs, hx, rfl, hown, hr, hg⟩ := hrel
    have HO : Hid (wr.ownsRow w.heap.size 2 1 _ xs.length (xs.map (Value.int .i64))) := hown
    have HRr : Hid (Rd wr R a len cap) := hr
    have HG : Hid (w.grownBy wr (some R)) := hg
    clear hown hr hg
    by_cases hlt : (xs.length : Int) < (n : Int)
    · have HX : Hid (xs.length < n) := by show xs.length < n; omega
      have HN : Hid (n ≤ 129) := hn
      go_wp2_with fail
      refine (below_pos _ R a len cap HRr.out 3 (by omega) (by omega)).mono ?_
      rintro e w2 ⟨v, rfl, hv, hr2, hb2⟩
      have HO2 : Hid (w2.ownsRow w.heap.size 2 1 _ xs.length (xs.map (Value.int .i64))) := own_drawn HO.out hb2 hRsz
      have HR2 : Hid (Rd w2 R a len cap) := hr2
      have HG2 : Hid (w.grownBy w2 (some R)) := gtrans HG.out hb2
      clear hr2 hb2
      go_wp2_with (at_builtin; refine ints.wpList_push _ rfl _ _ rfl w.heap.size _ xs (v : Int) HO2.out rfl rfl (by have := HX.out; have := HN.out; omega) HG2.out.size ?_; intro g cp w3 hown3 hb3 hs3)
      have HO3 : Hid (w3.ownsRow w.heap.size 2 1 (.slice (some ⟨g, 0, none⟩) (xs.length + 1) cp) (xs ++ [(v : Int)]).length ((xs ++ [(v : Int)]).map (Value.int .i64))) := hown3
      have HR3 : Hid (Rd w3 R a len cap) := HR2.out.above (hb3.mono hRsz)
      have HG3 : Hid (w.grownBy w3 (some R)) := grown_past HG2.out hb3 (Nat.le_refl _)
      clear hown3 hb3 hs3
      go_roundw
      case rel => exact ⟨xs ++ [(v : Int)], by have := HX.out; simp; omega, by simp, HO3.out, HR3.out, HG3.out⟩
      case measure => simp [intOf]; omega
    · go_wp2_with fail
      refine (below_pos _ R a len cap HRr.out 12 (by omega) (by omega)).mono ?_
      rintro e w2 ⟨c, rfl, hc, hr2, hb2⟩
      have HO2 : Hid (w2.ownsRow w.heap.size 2 1 _ xs.length (xs.map (Value.int .i64))) := own_drawn HO.out hb2 hRsz
      have HR2 : Hid (Rd w2 R a len cap) := hr2
      have HG2 : Hid (w.grownBy w2 (some R)) := gtrans HG.out hb2
      clear hr2 hb2 HO HRr HG
      have hcase : c = 0 ∨ c = 1 ∨ c = 2 ∨ 3 ≤ c := by omega
      rcases hcase with rfl | rfl | rfl | hcc
      · have HN : Hid (xs.length ≤ 129) := by show xs.length ≤ 129; omega
        go_wp2_with fail
        refine (below_pos _ R a len cap HR2.out 3 (by omega) (by omega)).mono ?_
        rintro e w3 ⟨v, rfl, hv, hr3, hb3⟩
        have HO3 : Hid (w3.ownsRow w.heap.size 2 1 _ xs.length (xs.map (Value.int .i64))) := own_drawn HO2.out hb3 hRsz
        have HR3 : Hid (Rd w3 R a len cap) := hr3
        have HG3 : Hid (w.grownBy w3 (some R)) := gtrans HG2.out hb3
        clear hr3 hb3
        go_wp2_with (at_builtin; refine ints.wpList_push _ rfl _ _ rfl w.heap.size _ xs (v : Int) HO3.out rfl rfl (by have := HN.out; omega) HG3.out.size ?_; intro g cp w4 hown4 hb4 hs4)
        have HO4 : Hid (w4.ownsRow w.heap.size 2 1 (.slice (some ⟨g, 0, none⟩) (xs.length + 1) cp) (xs ++ [(v : Int)]).length ((xs ++ [(v : Int)]).map (Value.int .i64))) := hown4
        have HR4 : Hid (Rd w4 R a len cap) := HR3.out.above (hb4.mono hRsz)
        have HG4 : Hid (w.grownBy w4 (some R)) := grown_past HG3.out hb4 (Nat.le_refl _)
        clear hown4 hb4 hs4
        go_ret
        exact kept_of (by have := HN.out; simp; omega) HO4.out HR4.out HG4.out
      · rcases own_form HO2.out with ⟨rfl, h0⟩ | ⟨g, cp, rfl, hg0, hcp, hmx⟩
        · go_wp2
          go_ret
          exact ⟨[], none, 0, rfl, by simp, fun i hi => by simp at hi, fun b off e hp => by simp at hp, HR2.out, HG2.out⟩
        · have hd1 : (xs.length : Int).tdiv 2 = ((xs.length / 2 : Nat) : Int) := by rw [Int.tdiv_eq_ediv_of_nonneg (by omega)]; omega
          have hd2 : (xs.length : Int) / 2 = ((xs.length / 2 : Nat) : Int) := by omega
          have hd3 : ((xs.length / 2 : Nat) : Int) ≤ (cp : Int) := by omega
          have hd4 : (0 : Int) ≤ ((xs.length / 2 : Nat) : Int) := by omega
          have HT : Hid ((xs.take (xs.length / 2)).length = xs.length / 2) := by show (xs.take (xs.length / 2)).length = xs.length / 2; simp; omega
          have HNM : Hid (Nums w2 (some ⟨g, 0, none⟩) (xs.take (xs.length / 2))) := fun i hi => by
            have hi2 : i < xs.length := by simp at hi; omega
            have h1 := HO2.out.cellAt i (by omega)
            rw [List.getElem?_map, List.getElem?_eq_getElem hi2] at h1
            exact ⟨g, 0, rfl, by rw [Nat.zero_add]; simpa using h1⟩
          have HNN : Hid (xs.length / 2 ≤ 130) := by show xs.length / 2 ≤ 130; omega
          generalize xs.length / 2 = m at hd1 hd2 hd3 hd4 HT HNM HNN
          go_wp2
          go_ret
          refine ⟨xs.take m, some ⟨g, 0, none⟩, cp, ?_, ?_, HNM.out, ?_, HR2.out, HG2.out⟩
          · rw [HT.out]; rfl
          · rw [HT.out]; exact HNN.out
          · intro b off e hp
            injection e with q
            injection q with q1
            omega
      · by_cases hl0 : (0 : Int) < (xs.length : Int)
        · rcases own_form HO2.out with ⟨rfl, h0⟩ | ⟨g, cp, rfl, hg0, hcp, hmx⟩
          · omega
          · have HN : Hid (xs.length ≤ 130) := by show xs.length ≤ 130; omega
            go_wp2_with fail
            refine (below_pos _ R a len cap HR2.out (xs.length : Int) (by omega) (by omega)).mono ?_
            rintro e w3 ⟨j, rfl, hj, hr3, hb3⟩
            have HO3 : Hid (w3.ownsRow w.heap.size 2 1 (.slice (some ⟨g, 0, none⟩) xs.length cp) xs.length (xs.map (Value.int .i64))) := own_drawn HO2.out hb3 hRsz
            have HR3 : Hid (Rd w3 R a len cap) := hr3
            have HG3 : Hid (w.grownBy w3 (some R)) := gtrans HG2.out hb3
            clear hr3 hb3
            go_wp2_with fail
            refine (off_any _ R a len cap HR3.out 0 2 (by omega) (by omega) (by omega)).mono ?_
            rintro e w4 ⟨x, rfl, hxw, hr4, hb4⟩
            have HO4 : Hid (w4.ownsRow w.heap.size 2 1 (.slice (some ⟨g, 0, none⟩) xs.length cp) xs.length (xs.map (Value.int .i64))) := own_drawn HO3.out hb4 hRsz
            have HR4 : Hid (Rd w4 R a len cap) := hr4
            have HG4 : Hid (w.grownBy w4 (some R)) := gtrans HG3.out hb4
            clear hr4 hb4 hxw
            have hjx : j < xs.length := by omega
            have c0 : w4.cell? ⟨g, j, none⟩ = some (.int .i64 xs[j]) := by
              rw [HO4.out.cellAt j (by omega), List.getElem?_map, List.getElem?_eq_getElem hjx]
              rfl
            have f0 : w4.frozen? ⟨g, j, none⟩ = false := HO4.out.frozenAt j
            have HST : Hid ((w4.setCell ⟨g, j, none⟩ (.int .i64 x)).ownsRow w.heap.size 2 1 (.slice (some ⟨g, 0, none⟩) xs.length cp) (xs.set j x).length ((xs.set j x).map (Value.int .i64))) := by
              have h1 := (HO4.out.stored j (.int .i64 x)).1
              rw [← List.map_set] at h1
              have h2 : (xs.set j x).length = xs.length := by simp
              rw [h2]
              exact h1
            have HB5 : Hid (Below w.heap.size w4 (w4.setCell ⟨g, j, none⟩ (.int .i64 x))) := (Below.refl _ _).setCell (p := ⟨g, j, none⟩) hg0 _
            go_wp2
            go_ret
            have h2 : (xs.set j x).length = xs.length := by simp
            exact kept_of (by rw [h2]; exact HN.out) HST.out (HR4.out.above (HB5.out.mono hRsz)) (grown_past HG4.out HB5.out (Nat.le_refl _))
        · have HN : Hid (xs.length ≤ 130) := by show xs.length ≤ 130; omega
          rcases own_form HO2.out with ⟨rfl, h0⟩ | ⟨g, cp, rfl, hg0, hcp, hmx⟩
          · go_wp2
            go_ret
            exact kept_of HN.out HO2.out HR2.out HG2.out
          · go_wp2
            go_ret
            exact kept_of HN.out HO2.out HR2.out HG2.out
      · have e0 : ((c : Int) == 0) = false := by simp; omega
        have e1 : ((c : Int) == 1) = false := by simp; omega
        have e2 : ((c : Int) == 2) = false := by simp; omega
        have HN : Hid (xs.length ≤ 130) := by show xs.length ≤ 130; omega
        go_wp2
        go_ret
        exact kept_of HN.out HO2.out HR2.out HG2.out
theorem nums_set2 {w : World} {aa : Option Addr} {xs : List Int} {C : Nat} (h : Nums w aa xs) (hne : ∀ b off, aa = some ⟨b, off, none⟩ → 0 < xs.length → b ≠ C) (S V : Value) : Nums ((w.setCell ⟨C, 0, none⟩ S).setCell ⟨C, 1, none⟩ V) aa xs := fun i hi => by
  obtain ⟨b, off, e, h0⟩ := h i hi
  exact ⟨b, off, e, by rw [set2_other (hne b off e (by omega))]; exact h0⟩
set_option maxHeartbeats 4000000 in
theorem draw_crash (w : World) (a : Option Addr) (len cap : Nat) (hs : len ≤ 1048576) (hc : RdCode w w.heap.size a len) :
    Calls Try.prog 24 #[.slice a len cap] w fun e w' => ∃ (safe : ByteArray) (ls : List Ln) (aa : Option Addr) (cp : Nat) (ks : List Int) (kb : Option Addr) (kc : Nat), e = .returned (.tuple #[.agg #[.string safe, .slice aa ls.length cp], .slice kb ks.length kc]) ∧ ks.length ≤ 130 ∧ Sized safe ls ∧ Lines w' aa ls ∧ Nums w' kb ks ∧ Below w.heap.size w w' := by
  obtain ⟨W, hW⟩ : ∃ W, W = w.alloc (.cells #[.string ⟨#[]⟩, .slice none 0 0] 26) := ⟨_, rfl⟩
  have HW : Hid (W = w.alloc (.cells #[.string ⟨#[]⟩, .slice none 0 0] 26)) := hW
  have hb0 : Below w.heap.size w W := by rw [hW]; exact (Below.refl _ _).alloc (Nat.le_refl _) _
  have HC : Hid (RdCode W W.heap.size a len) := hc.below hb0 hb0.size
  clear hW hc hb0
  go_enter Try.func24, Try.ntmps24
  go_wp2_with fail
  rw [← HW.out]
  refine (open_any W a len cap hs HC.out).mono ?_
  rintro e w1 ⟨rfl, hr1, hb1⟩
  have HR1 : Hid (Rd w1 W.heap.size a len cap) := hr1
  have HB1 : Hid (Below W.heap.size W w1) := hb1
  clear hr1 hb1
  go_wp2_with fail
  refine (device_any w1 _ a len cap HR1.out).mono ?_
  rintro e w2 ⟨safe, ls, aa, cp, rfl, z1, z2, z3, hl, hf, hr2, hg⟩
  obtain ⟨X, hX⟩ : ∃ X, X = w2.alloc (.cells #[.string safe, .slice aa ls.length cp] 26) := ⟨_, rfl⟩
  have HX : Hid (X = w2.alloc (.cells #[.string safe, .slice aa ls.length cp] 26)) := hX
  have HD : Hid (Dealt w X W.heap.size a len cap w.heap.size w2.heap.size safe aa cp ls) := by
    have h1 : Dealt w X W.heap.size a len cap w.heap.size w2.heap.size safe aa cp ls := by rw [hX]; exact .first HW.out rfl HB1.out HR1.out hl hf hr2 hg
    exact h1
  have HZ : Hid (Sized safe ls) := ⟨z1, z2, z3⟩
  clear hX hl hf hr2 hg z2 z3
  have b0 := HD.out.box0
  have b1 := HD.out.box1
  go_wp2_with (rw [← HX.out])
  go_upto_region 3 with (rw [← HX.out])
  go_region_held3 (fun w' => w'.cell? ⟨w2.heap.size, 0, none⟩ = some (.string safe) ∧ w'.cell? ⟨w2.heap.size, 1, none⟩ = some (.slice aa ls.length cp))
    (first | exact ⟨HD.out.drew.box0, HD.out.drew.box1⟩ | exact ⟨HD4.out.box0, HD4.out.box1⟩ | exact HD4.out.boxes _ _)
    (first | (go_at_call 51; refine (keep_any _ _ a len cap HD.out.drew.rd ls.length HZ.out.2.1).mono ?_; rintro e w4 ⟨ks, kb, kc, rfl, hk, hnk, hfk, hr4, hg4⟩; have HD4 : Hid (Dealt w w4 W.heap.size a len cap w.heap.size w2.heap.size safe aa cp ls) := HD.out.drew.drawn hr4 hg4; have HNK : Hid (Nums w4 kb ks) := hnk; have HKL : Hid (ks.length ≤ 130) := hk; have HFK : Hid (∀ b off, kb = some ⟨b, off, none⟩ → 0 < ks.length → w.heap.size < b) := (fun b off e hp => by have h1 := hfk b off e hp; have h2 := HD.out.dr; have h3 := HD.out.nr; have h4 : w2.heap.size < X.heap.size := World.block_lt_of_cell? X _ HD.out.box0; change X.heap.size ≤ b at h1; omega); have q0 := HD4.out.res0; have q1 := HD4.out.res1; have y0 := HD4.out.fres0; have y1 := HD4.out.fres1; clear hr4 hg4 hnk hfk hk))
  all_goals
    obtain ⟨p0, p1⟩ := set2_cells HD4.out.res0 HD4.out.res1 (.string safe) (.slice aa ls.length cp)
    have HE : Hid (_ ∧ _) := HD4.out.ends (.string safe) (.slice aa ls.length cp)
    go_wp2
    refine bodyPost_ret (v := .tuple #[.agg #[.string safe, .slice aa ls.length cp], .slice kb ks.length kc]) (by simp [results, Try.results24, go_sem, p0, p1]) rfl ?_
    exact ⟨safe, ls, aa, cp, ks, kb, kc, rfl, HKL.out, HZ.out, HE.out.1, nums_set2 HNK.out (fun b off e hp => by have := HFK.out b off e hp; omega) _ _, HE.out.2⟩
theorem crash_two (safe : ByteArray) (ls : List Ln) (ks : List Int) (hz : Sized safe ls) (hk : ks.length ≤ 130) : ∃ cs : ByteArray, (DevOk safe ls → cs = crashStr safe ls ks)
    ∧ (∀ (w : World) (a : Option Addr) (cap : Nat) (kb : Option Addr) (kc : Nat), Lines w a ls → Nums w kb ks → Calls Try.prog 22 #[.agg #[.string safe, .slice a ls.length cap], .slice kb ks.length kc] w fun e w' => e = .returned (.agg #[.string cs, .slice none 0 0]) ∧ Below w.heap.size w w')
    ∧ ∀ (w : World) (a : Option Addr) (cap : Nat) (kb : Option Addr) (kc : Nat), Lines w a ls → Nums w kb ks → Calls Try.prog 25 #[.agg #[.string safe, .slice a ls.length cap], .slice kb ks.length kc] w fun e w' => e = .returned (.agg #[.string cs, .slice none 0 0]) ∧ Below w.heap.size w w' := by
  have h1 : safe.size ≤ 1048576 := by have := hz.1; omega
  have h2 : ls.length ≤ 1048576 := by have := hz.2.1; omega
  by_cases hok : DevOk safe ls
  · exact ⟨_, fun _ => rfl, fun w a cap kb kc hl hn => impl_crash w safe a cap ls kb kc ks h1 h2 (by omega) hl hn hz.each hok, fun w a cap kb kc hl hn => spec_crash w safe a cap ls kb kc ks h1 h2 (by omega) hl hn hz.each hok⟩
  · exact ⟨_, fun q => absurd q hok, fun w a cap kb kc hl _ => impl_crash_no w safe a cap ls _ h1 h2 hl hz.each hok, fun w a cap kb kc hl _ => spec_crash_no w safe a cap ls _ h1 h2 hl hz.each hok⟩
end Go.Proofs.Ytgpmpijaggnocaa.dev
