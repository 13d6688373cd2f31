/-
  FreeOf, FindRun and Gaps by the program; nothing that was there is written.
-/
import Derived.Test.YtomlogkbndmaaaaGaps2
import Derived.Test.YtomlogkbndmaaaaGapMath
namespace Go.Proofs.Ytomlogkbndmaaaa.lb
open Go.RowKit
open ints

set_option maxRecDepth 20000 in
theorem yes_nat {m : ByteArray} {a b : Int} (h : (mapOk m && rangeB a b) = true) : ∃ A N : Nat, a = (A : Int) ∧ b = ((A + N : Nat) : Int) ∧ A + N ≤ 128 ∧ mapOk m = true ∧ (b - a).toNat = N ∧ a.toNat = A := by
  rw [Bool.and_eq_true] at h
  obtain ⟨A, N, rfl, rfl, h1⟩ := rangeB_nat h.2
  exact ⟨A, N, rfl, rfl, h1, h.1, by omega, by omega⟩
set_option maxRecDepth 20000 in
/-- Whatever is asked. -/
theorem gapsOf_any (m : ByteArray) (a b : Int) (w : World) :
    Calls Try.prog 73 #[.string m, .int .i64 a, .int .i64 b] w fun e w' => ∃ v, e = .returned (.tuple #[v, .bool (mapOk m && rangeB a b)]) ∧ w'.ownsRow w.heap.size 106 2 v (gapsOfM m a b).length (cellsOfSpans (gapsOfM m a b)) ∧ Below w.heap.size w w' := by
  cases h : mapOk m && rangeB a b with
  | false =>
    have e : gapsOfM m a b = [] := by rw [gapsOfM, h]; rfl
    rw [e]
    exact (gapsOf_no m a b h w).mono fun _ _ ⟨he, hb⟩ => ⟨_, he, World.ownsRow_nil _ _ _ _, hb⟩
  | true =>
    obtain ⟨A, N, rfl, rfl, h1, hm, e1, e2⟩ := yes_nat h
    have e : gapsOfM m (A : Int) ((A + N : Nat) : Int) = gapsK m.data.toList A N := by rw [gapsOfM, h, if_pos rfl, e1, e2]
    rw [e]
    exact gapsOf_yes m A N hm h1 w
set_option maxRecDepth 20000 in
theorem gapsOfM_sum (m : ByteArray) (a b : Int) : sumLen (gapsOfM m a b) ≤ 128 ∧ (gapsOfM m a b).length ≤ 128 ∧ ∀ s ∈ gapsOfM m a b, s.1 + s.2 ≤ 128 := by
  cases h : mapOk m && rangeB a b with
  | false =>
    have e : gapsOfM m a b = [] := by rw [gapsOfM, h]; rfl
    rw [e]
    exact ⟨by simp [sumLen], by simp, fun s h => by simp at h⟩
  | true =>
    obtain ⟨A, N, rfl, rfl, h1, hm, e1, e2⟩ := yes_nat h
    have e : gapsOfM m (A : Int) ((A + N : Nat) : Int) = gapsK m.data.toList A N := by rw [gapsOfM, h, if_pos rfl, e1, e2]
    rw [e, sum_gaps]
    have h2 := freeN_le m.data.toList A N
    have h3 := (gapsK_known m.data.toList A N).1
    exact ⟨by omega, by omega, fun s hs => by have := gapsK_len m.data.toList A N s hs; omega⟩
set_option maxRecDepth 20000 in
theorem findG_take (n : Nat) (G : List (Nat × Nat)) (k : Nat) (hk : k < G.length) (h : ∀ j (hj : j < G.length), j < k → (G[j]).2 < n) : n ≤ (G[k]).2 → findG n G = ((G[k]).1 : Int) := by
  induction G generalizing k with
  | nil => simp at hk
  | cons s G ih =>
    intro h1
    rw [findG]
    cases k with
    | zero => rw [if_pos (by simpa using h1)]; rfl
    | succ k =>
      have h0 := h 0 (by simp) (by omega)
      simp at h0
      rw [if_neg (by omega)]
      have := ih k (by simpa using hk) (fun j hj hjk => by have := h (j + 1) (by simpa using hj) (by omega); simpa using this) (by simpa using h1)
      simpa using this
set_option maxRecDepth 20000 in
theorem findG_none (n : Nat) (G : List (Nat × Nat)) (h : ∀ j (hj : j < G.length), (G[j]).2 < n) : findG n G = -1 := by
  induction G with
  | nil => rfl
  | cons s G ih =>
    rw [findG]
    have h0 := h 0 (by simp)
    simp at h0
    rw [if_neg (by omega)]
    exact ih (fun j hj => by have := h (j + 1) (by simpa using hj); simpa using this)
set_option maxRecDepth 20000 in
theorem findOf_gaps (m : ByteArray) (a b n : Int) : findOf m a b n = if (mapOk m && rangeB a b && (decide (1 ≤ n) && decide (n ≤ 128))) = true then findG n.toNat (gapsOfM m a b) else -1 := by
  unfold findOf gapsOfM
  by_cases h : (mapOk m && rangeB a b) = true
  · rw [if_pos h]
  · have h' : (mapOk m && rangeB a b) = false := by simpa using h
    rw [h', Bool.false_and, if_neg (by simp), if_neg (by simp)]
set_option maxRecDepth 20000 in
set_option maxHeartbeats 2000000 in
theorem impl_find (m : ByteArray) (a b n : Int) (w : World) :
    Calls Try.prog 40 #[.string m, .int .i64 a, .int .i64 b, .int .i64 n] w fun e w' => e = .returned (.int .i64 (findOf m a b n)) ∧ Below w.heap.size w w' := by
  have HG : Hid (∀ w, _) := fun w => gapsOf_any m a b w
  have HI : Hid (∀ w, _) := fun w => within_any w n 1 128
  have HF : Hid (findOf m a b n = if (mapOk m && rangeB a b && (decide (1 ≤ n) && decide (n ≤ 128))) = true then findG n.toNat (gapsOfM m a b) else -1) := findOf_gaps m a b n
  obtain ⟨hs, hl, hm⟩ := gapsOfM_sum m a b
  generalize gapsOfM m a b = G at HG HF hs hl hm
  generalize findOf m a b n = r at HF ⊢
  cases h : mapOk m && rangeB a b with
  | false =>
    rw [h] at HG HF
    have HFF : Hid (r = -1) := HF.out
    clear h
    go_enter Try.func40, Try.ntmps40
    go_wp2_with fail
    refine (HG.out _).mono ?_
    rintro e w1 ⟨v, rfl, hown, hb1⟩
    clear hown
    go_wp2
    go_ret
    exact ⟨by rw [HFF.out]; rfl, hb1⟩
  | true =>
    rw [h] at HG HF
    clear h
    cases hn : (decide (1 ≤ n) && decide (n ≤ 128)) with
    | false =>
      rw [hn] at HI HF
      have HFF : Hid (r = -1) := HF.out
      clear hn
      go_enter Try.func40, Try.ntmps40
      go_wp2_with fail
      refine (HG.out _).mono ?_
      rintro e w1 ⟨v, rfl, hown, hb1⟩
      clear hown
      go_wp2_with fail
      refine (HI.out _).mono ?_
      rintro e w' ⟨rfl, rfl⟩
      go_wp2
      go_ret
      exact ⟨by rw [HFF.out]; rfl, hb1⟩
    | true =>
      rw [hn] at HI HF
      have hnn : 1 ≤ n ∧ n ≤ 128 := by simpa using hn
      obtain ⟨q, rfl⟩ := Int.eq_ofNat_of_zero_le (by omega : 0 ≤ n)
      have HFF : Hid (r = findG q G) := by show r = findG q G; have := HF.out; simpa using this
      have HM : Hid (∀ s ∈ G, s.1 + s.2 ≤ 128) := hm
      clear hn hs hm
      go_enter Try.func40, Try.ntmps40
      go_wp2_with fail
      refine (HG.out _).mono ?_
      rintro e w1 ⟨v, rfl, hown, hb1⟩
      have HSP : Hid (Spans w1 v G) := spans_of_row hown
      have HB1 : Hid (Below w.heap.size w w1) := hb1
      obtain ⟨ad, cap, rfl, hsp⟩ := HSP.out
      clear hown hb1 hsp
      go_wp2_with fail
      refine (HI.out _).mono ?_
      rintro e w' ⟨rfl, rfl⟩
      go_wp2
      go_loopw [29] (fun i wr => ∃ k : Nat, k ≤ G.length ∧ i = .int .i64 (k : Int) ∧ (∀ j (hj : j < G.length), j < k → (G[j]).2 < q) ∧ Below w1.heap.size w1 wr) (fun i _ => G.length - (intOf i).toNat)
      case atStart => exact ⟨0, Nat.zero_le _, rfl, fun j hj h => by omega, Below.refl _ _⟩
      case round =>
        obtain ⟨k, hk, rfl, hall, hb⟩ := hrel
        have HB : Hid (Below w1.heap.size w1 wr) := hb
        have HALL : Hid (∀ j (hj : j < G.length), j < k → (G[j]).2 < q) := hall
        clear hb hall
        by_cases hlt : k < G.length
        · have hlti : (k : Int) < (G.length : Int) := by omega
          have hk0 : (0 : Int) ≤ (k : Int) := by omega
          have HTK : Hid (q ≤ (G[k]).2 → findG q G = ((G[k]).1 : Int)) := findG_take q G k hlt HALL.out
          have HNX : Hid ((G[k]).2 < q → ∀ j (hj : j < G.length), j < k + 1 → (G[j]).2 < q) := fun h j hj hjk => by
            by_cases e : j = k
            · subst e; exact h
            · exact HALL.out j hj (by omega)
          obtain ⟨ad', cap', he, hcs⟩ := HSP.out.below HB.out
          injection he with he1 he2 he3
          subst he1
          obtain ⟨bk, rfl, c0, c1⟩ := hcs k hlt
          generalize G[k] = s at c0 c1 HTK HNX
          obtain ⟨p, y⟩ := s
          simp only at c0 c1 HTK HNX
          have HBX : Hid (Below w1.heap.size w1 (wr.alloc (.cells #[.int .i64 (p : Int), .int .i64 (y : Int)] 106))) := HB.out.alloc HB.out.size _
          clear hcs he3
          by_cases hy : q ≤ y
          · have hyi : (q : Int) ≤ (y : Int) := by omega
            have HRES : Hid (findG q G = (p : Int)) := HTK.out hy
            go_wp2
            go_ret
            exact ⟨by rw [HFF.out, HRES.out]; rfl, HB1.out.trans (HBX.out.mono HB1.out.size)⟩
          · have hyi : ¬ (q : Int) ≤ (y : Int) := by omega
            have HNX' : Hid (∀ j (hj : j < G.length), j < k + 1 → (G[j]).2 < q) := HNX.out (by omega)
            go_wp2
            go_roundw
            case rel => exact ⟨k + 1, by omega, by go_num, HNX'.out, HBX.out⟩
            case measure => simp [intOf]; omega
        · have hk2 : k = G.length := by omega
          subst hk2
          have HRES : Hid (findG q G = -1) := findG_none q G (fun j hj => HALL.out j hj hj)
          go_wp2
          go_ret
          exact ⟨by rw [HFF.out, HRES.out]; rfl, HB1.out.trans (HB.out.mono HB1.out.size)⟩
end Go.Proofs.Ytomlogkbndmaaaa.lb
