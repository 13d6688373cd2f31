/-
  Where the objects of a nursery begin, by the specification.
-/
import Derived.Test.YtngpmohmnpbcnaaYSpec2
namespace Go.Proofs.Ytngpmohmnpbcnaa.nu
open Go.RowKit
open kinds ints ref obj

theorem parseF_len (xs : List ByteArray) (ws : List Int) : ∀ (f a : Nat) (L : List Nat), parseF xs ws f a = some L → L.length ≤ f
  | 0, _, L, h => by
    simp only [parseF, Option.some.injEq] at h
    subst h; simp
  | f + 1, a, L, h => by
    rw [parseF] at h
    split at h
    · split at h
      · cases h
      · obtain ⟨M, hM, rfl⟩ := Option.map_eq_some_iff.1 h
        have := parseF_len xs ws f _ M hM
        simp; omega
    · cases h; simp
theorem starts_len (xs : List ByteArray) (z : Int) (ws : List Int) : (startsN xs z ws).length ≤ ws.length := by
  unfold startsN
  split
  · cases hp : parsed xs ws with
    | none => simp
    | some L => exact parseF_len xs ws _ _ L hp
  · simp
theorem parse_right {xs : List ByteArray} {z : Int} {ws : List Int} (h : nurB xs z ws = true) : parseB xs z ws = true ∧ parseL xs ws = startsN xs z ws := by
  obtain ⟨h1, h2, _⟩ := nurB_found h
  unfold parseB parseL
  rw [h1, h2]
  exact ⟨rfl, rfl⟩
theorem starts_no {xs : List ByteArray} {z : Int} {ws : List Int} (h : nurB xs z ws = false) : startsN xs z ws = [] := by unfold startsN; rw [h]; simp
theorem aout_none {mk : Value → Value} {w w' : World} {e : Ending} (h : e = .returned (mk (.slice none 0 0))) (hb : Below w.heap.size w w') : AOut mk [] w e w' := ⟨none, w.heap.size, 0, h, Nat.le_refl _, (fun i hi => by cases hi), hb⟩
set_option maxHeartbeats 1000000 in
set_option maxRecDepth 20000 in
theorem spec_starts (w : World) (a : Option Addr) (cap : Nat) (xs : List ByteArray) (z : Int) (a2 : Option Addr) (n vcap : Nat) (ws : List Int) (hx : ws.length = n) (hxn : xs.length ≤ 1048576) (hl : Strs w a xs) (hz : ∀ i (hi : i < xs.length), xs[i].size ≤ 1048576) (hn : n ≤ 1048576) (hv : Nums w a2 ws) (hh : ∀ x ∈ ws, x < 9223372036854775808) :
    Calls Try.prog 89 #[.slice a xs.length cap, .agg #[.int .i64 z, .slice a2 n vcap]] w fun e w' => AOut (fun s => s) (numsOf (startsN xs z ws)) w e w' := by
  obtain ⟨W, hW⟩ : ∃ W, W = w.alloc (.cells #[.int .i64 z, .slice a2 n vcap] 31) := ⟨_, rfl⟩
  have HW : Hid (W = w.alloc (.cells #[.int .i64 z, .slice a2 n vcap] 31)) := hW
  obtain ⟨hb0, hsz, c0, c1⟩ := box2 w z a2 n vcap W hW
  have HB0 : Hid (Below w.heap.size w W) := hb0
  have hlW := hl.below hb0
  have hvW := hv.below hb0
  have HOK : Hid (Calls _ _ _ W _) := spec_nurok W a cap xs z a2 n vcap ws hx hxn hlW hz hn hvW hh
  have HPA : Hid (∀ w', Below W.heap.size W w' → Calls _ _ _ w' _) := fun w' h => spec_parse w' a cap xs z a2 n vcap ws hx hxn (hlW.below h) hz hn (hvW.below h) hh
  have HCS : Hid (∀ w', Below W.heap.size W w' → w'.cell? ⟨w.heap.size, 0, none⟩ = some (.int .i64 z) ∧ w'.cell? ⟨w.heap.size, 1, none⟩ = some (.slice a2 n vcap)) := fun w' h =>
    ⟨by rw [h.cell (p := ⟨w.heap.size, 0, none⟩) (by show w.heap.size < _; omega)]; exact c0, by rw [h.cell (p := ⟨w.heap.size, 1, none⟩) (by show w.heap.size < _; omega)]; exact c1⟩
  clear hW hl hv hb0 hlW hvW hx hh hz hsz
  go_enter Try.func89, Try.ntmps89
  go_wp2_with (rw [← HW.out])
  refine HOK.out.mono ?_
  rintro e w2 ⟨rfl, hb2⟩
  have HB2 : Hid (Below W.heap.size W w2) := hb2
  clear hb2 c0 c1
  cases hr : nurB xs z ws with
  | false =>
    have HS : Hid (numsOf (startsN xs z ws) = []) := by show numsOf _ = []; rw [starts_no hr]; rfl
    clear hr
    go_wp2
    go_ret
    rw [HS.out]
    exact aout_none rfl (HB0.out.trans (HB2.out.mono HB0.out.size))
  | true =>
    have HPR : Hid (parseB xs z ws = true ∧ parseL xs ws = startsN xs z ws) := parse_right hr
    obtain ⟨c0, c1⟩ := HCS.out w2 HB2.out
    clear hr
    go_wp2_with fail
    refine (HPA.out w2 HB2.out).mono ?_
    rintro e w3 ⟨hb3, sa, sg, len, sc, rfl, hyes⟩
    obtain ⟨hlen, hsg, hin, _⟩ := hyes HPR.out.1
    rw [HPR.out.2] at hlen hin
    have HI3 : Hid (Ints w3 sa sg (numsOf (startsN xs z ws))) := hin
    have HSG : Hid (w.heap.size ≤ sg) := by show w.heap.size ≤ sg; have := HB0.out.size; have := HB2.out.size; omega
    have HB3 : Hid (Below w.heap.size w w3) := HB0.out.trans ((HB2.out.trans (hb3.mono HB2.out.size)).mono HB0.out.size)
    have HLE : Hid (len = (numsOf (startsN xs z ws)).length) := by show len = _; rw [hlen, numsOf_len]
    clear hb3 hyes hlen hsg hin c0 c1
    go_wp2
    go_ret
    exact ⟨sa, sg, sc, by rw [← HLE.out]; rfl, HSG.out, HI3.out, HB3.out⟩
end Go.Proofs.Ytngpmohmnpbcnaa.nu
