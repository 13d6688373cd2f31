/-
  A nursery is opened, by the program.
-/
import Derived.Test.YtngpmohmnpbcnaaYOpen1
import Derived.Deep.RegionHeld3
namespace Go.Proofs.Ytngpmohmnpbcnaa.nu
open Go.RowKit Go.Maps
open kinds ints ref obj

theorem YIs.mono {w : World} {B B' s : Nat} {xs : List ByteArray} {ws : List Int} {a : Nat} {y : Yg} (h : YIs w B s xs ws a y) (hB : B' ≤ B) : YIs w B' s xs ws a y := by
  obtain ⟨h1, h2, h3, g, h4, h5, h6, h7, h8⟩ := h
  exact ⟨h1, h2, h3, g, h4, by omega, h6, h7, h8⟩
theorem Objs.mono {w : World} {B B' s b n : Nat} {xs : List ByteArray} {ws : List Int} {L : List Nat} (h : Objs w B s b n xs ws L) (hB : B' ≤ B) : Objs w B' s b n xs ws L := by
  obtain ⟨f, h1, h2, h3⟩ := h
  exact ⟨f, h1, h2, fun a ha => by obtain ⟨y, e, q⟩ := h3 a ha; exact ⟨y, e, q.mono hB⟩⟩
theorem words_of_row {w : World} {base : Nat} {v : Value} {xs : List Int} (h : w.ownsRow base 69 1 v xs.length (xs.map (Value.int .i64))) : ∃ a g cap, v = .slice a xs.length cap ∧ base ≤ g ∧ Ints w a g xs := by
  rcases h.2 with ⟨rfl, h0⟩ | ⟨g, cap, cur, rfl, hb, hg, hc, hcm, hcs, ht⟩
  · exact ⟨none, base, 0, by rw [h0], Nat.le_refl _, fun i hi => by omega⟩
  · refine ⟨_, g, cap, rfl, hb, fun i hi => ⟨rfl, ?_, ?_⟩⟩
    · have hx : (cur.toList.take (xs.length * 1))[i]? = some (.int .i64 xs[i]) := by rw [ht]; simp [List.getElem?_eq_getElem hi]
      rw [List.getElem?_take, if_pos (by omega)] at hx
      rw [cell_of_row w g i cur 69 (0, 0) hg]
      simpa using hx
    · simp [World.frozen?, hg]
/-- What opening answers. -/
def OpenAns (xs : List ByteArray) (z : Int) (ws : List Int) (w : World) (e : Ending) (w' : World) : Prop :=
  Below w.heap.size w w' ∧ ∃ (ta : Option Addr) (tn tc : Nat) (sa : Option Addr) (sc : Nat) (mo : Option Nat), e = .returned (.tuple #[.agg #[.slice ta tn tc, .slice sa (startsN xs z ws).length sc, .map mo], .bool (nurB xs z ws)]) ∧ Nums w' sa (numsOf (startsN xs z ws)) ∧ Looks w' w.heap.size (.map mo) xs ws (startsN xs z ws) ∧ (∀ x ∈ startsN xs z ws, stepN xs ws x ≠ 0) ∧ (startsN xs z ws).length ≤ ws.length ∧ (nurB xs z ws = true → Strs w' ta xs ∧ tn = xs.length)
theorem open_no {xs : List ByteArray} {z : Int} {ws : List Int} {w : World} {e : Ending} {w' : World} (h : nurB xs z ws = false) (he : e = .returned (.tuple #[.agg #[.slice none 0 0, .slice none 0 0, .map none], .bool false])) (hb : Below w.heap.size w w') : OpenAns xs z ws w e w' := by
  have hs : startsN xs z ws = [] := by unfold startsN; rw [h]; simp
  unfold OpenAns
  rw [hs, h]
  exact ⟨hb, none, 0, 0, none, 0, none, he, (fun i hi => by cases hi), .inl ⟨rfl, rfl⟩, (fun x hx => by cases hx), Nat.zero_le _, fun q => by cases q⟩
theorem open_yes {xs : List ByteArray} {z : Int} {ws : List Int} {w : World} {e : Ending} {w' : World} {L : List Nat} (h : nurB xs z ws = true) (hf : Found xs ws L) {a sa : Option Addr} {cap sc : Nat} {mo : Option Nat} (he : e = .returned (.tuple #[.agg #[.slice a xs.length cap, .slice sa L.length sc, .map mo], .bool true])) (hb : Below w.heap.size w w') (hn : Nums w' sa (numsOf L)) (hm : Looks w' w.heap.size (.map mo) xs ws L) (hst : Strs w' a xs) : OpenAns xs z ws w e w' := by
  have hs : startsN xs z ws = L := by unfold startsN; rw [h, hf.eq]; simp
  unfold OpenAns
  rw [hs, h]
  exact ⟨hb, a, xs.length, cap, sa, sc, mo, he, hn, hm, hf.good, hf.len, fun _ => ⟨hst, rfl⟩⟩
theorem open_box (w : World) (z : Int) (a2 : Option Addr) (n vcap : Nat) (W : World) (hW : W = (w.alloc (.cells #[.int .i64 z, .slice a2 n vcap] 31)).alloc (.cells #[.slice none 0 0, .slice none 0 0, .map none] 60)) :
    Below w.heap.size w W ∧ W.heap.size = w.heap.size + 2 ∧ Tri (w.heap.size + 1) (.slice none 0 0) (.slice none 0 0) (.map none) W ∧ W.cell? ⟨w.heap.size, 0, none⟩ = some (.int .i64 z) ∧ W.cell? ⟨w.heap.size, 1, none⟩ = some (.slice a2 n vcap) := by
  subst hW
  refine ⟨((Below.refl _ _).alloc (Nat.le_refl _) _).alloc (by simp) _, by simp, ?_, ?_, ?_⟩
  · have h := Tri.start (w.alloc (.cells #[.int .i64 z, .slice a2 n vcap] 31)) (.slice none 0 0) (.slice none 0 0) (.map none) 60
    rw [show (w.alloc (.cells #[.int .i64 z, .slice a2 n vcap] 31)).heap.size = w.heap.size + 1 by simp] at h
    exact h
  · rw [World.cell?_alloc_past _ _ _ (by simp), World.cell?_alloc_at _ _ _ _ (by simp)]; rfl
  · rw [World.cell?_alloc_past _ _ _ (by simp), World.cell?_alloc_at _ _ _ _ (by simp)]; rfl
set_option maxHeartbeats 2000000 in
set_option maxRecDepth 20000 in
theorem opened_early (w : World) (a : Option Addr) (cap : Nat) (xs : List ByteArray) (z : Int) (a2 : Option Addr) (n vcap : Nat) (ws : List Int) (hx : ws.length = n) (hxn : xs.length ≤ 1048576) (hl : Strs w a xs) (hz : ∀ i (hi : i < xs.length), xs[i].size ≤ 1048576) (_hn : n ≤ 1048576) (hp : preN xs z ws = false) :
    Calls Try.prog 39 #[.slice a xs.length cap, .agg #[.int .i64 z, .slice a2 n vcap]] w fun e w' => OpenAns xs z ws w e w' := by
  obtain ⟨W, hW⟩ : ∃ W, W = (w.alloc (.cells #[.int .i64 z, .slice a2 n vcap] 31)).alloc (.cells #[.slice none 0 0, .slice none 0 0, .map none] 60) := ⟨_, rfl⟩
  have HW : Hid (W = (w.alloc (.cells #[.int .i64 z, .slice a2 n vcap] 31)).alloc (.cells #[.slice none 0 0, .slice none 0 0, .map none] 60)) := hW
  obtain ⟨hb0, hsz, hT, c0, c1⟩ := open_box w z a2 n vcap W hW
  have HTY : Hid (Calls _ _ _ W _) := impl_types W a cap xs hxn (hl.below hb0) hz
  have HWI : Hid (∀ w : World, Calls _ _ _ w _) := fun w => within_any w z 2 400
  have v0 := hT.c0
  have v1 := hT.c1
  have v2 := hT.c2
  have z0 := hT.free 0
  have z1 := hT.free 1
  have z2 := hT.free 2
  have HT : Hid (Tri (w.heap.size + 1) (.slice none 0 0) (.slice none 0 0) (.map none) (((W.setCell ⟨w.heap.size + 1, 0, none⟩ (.slice none 0 0)).setCell ⟨w.heap.size + 1, 1, none⟩ (.slice none 0 0)).setCell ⟨w.heap.size + 1, 2, none⟩ (.map none))) := hT.put _ _ _
  have HBE : Hid (Below w.heap.size w (((W.setCell ⟨w.heap.size + 1, 0, none⟩ (.slice none 0 0)).setCell ⟨w.heap.size + 1, 1, none⟩ (.slice none 0 0)).setCell ⟨w.heap.size + 1, 2, none⟩ (.map none))) := put_below hb0 (by omega) _ _ _
  have HNO : Hid (∀ {e : Ending} {w' : World}, e = .returned (.tuple #[.agg #[.slice none 0 0, .slice none 0 0, .map none], .bool false]) → Below w.heap.size w w' → OpenAns xs z ws w e w') := fun he hb => open_no (nurB_pre hp) he hb
  have hpq : preN xs z ws = (typesOk xs && ((decide (2 ≤ z) && decide (z ≤ 400)) && decide ((ws.length : Int) ≤ z))) := rfl
  rw [hp] at hpq
  have HPQ : Hid (false = (typesOk xs && ((decide (2 ≤ z) && decide (z ≤ 400)) && decide ((ws.length : Int) ≤ z)))) := hpq
  have HX : Hid (ws.length = n) := hx
  clear hW hl hb0 hsz hT hpq hp hx
  generalize typesOk xs = ty at HTY HPQ
  generalize (decide (2 ≤ z) && decide (z ≤ 400)) = wi at HWI HPQ
  go_enter Try.func39, Try.ntmps39
  go_wp2_with fail
  rw [← HW.out]
  refine HTY.out.mono ?_
  rintro e w2 ⟨rfl, rfl⟩
  cases ty with
  | false =>
    go_wp2
    refine bodyPost_ret (v := .tuple #[.agg #[.slice none 0 0, .slice none 0 0, .map none], .bool false]) ?_ rfl (HNO.out rfl HBE.out)
    obtain ⟨q0, q1, q2, _⟩ := HT.out
    simp [results, Try.results39, go_sem, q0, q1, q2]
  | true =>
    go_wp2_with fail
    refine (HWI.out _).mono ?_
    rintro e w2 ⟨rfl, rfl⟩
    cases wi with
    | false =>
      go_wp2
      refine bodyPost_ret (v := .tuple #[.agg #[.slice none 0 0, .slice none 0 0, .map none], .bool false]) ?_ rfl (HNO.out rfl HBE.out)
      obtain ⟨q0, q1, q2, _⟩ := HT.out
      simp [results, Try.results39, go_sem, q0, q1, q2]
    | true =>
      have hgt : z < (n : Int) := by
        have h1 := HPQ.out
        simp at h1
        have := HX.out
        omega
      go_wp2
      refine bodyPost_ret (v := .tuple #[.agg #[.slice none 0 0, .slice none 0 0, .map none], .bool false]) ?_ rfl (HNO.out rfl HBE.out)
      obtain ⟨q0, q1, q2, _⟩ := HT.out
      simp [results, Try.results39, go_sem, q0, q1, q2]
end Go.Proofs.Ytngpmohmnpbcnaa.nu
