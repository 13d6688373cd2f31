/-
  A work list: items found one after another, each at most once; the maths alone.
-/
import Derived.Test.YthjfgibflbbgmaaInts
namespace Go.Proofs.Ythjfgibflbbgmaa.cl

/-- One item, where it isn't there yet. -/
def pushN (L : List Int) (x : Int) : List Int := if x ∈ L then L else L ++ [x]
def findN (L xs : List Int) : List Int := xs.foldl pushN L
/-- The list, its items from the i-th on being worked off; f: how many rounds at most. -/
def workN (nm : Int → List Int) : Nat → Nat → List Int → List Int
  | 0, _, L => L
  | f + 1, i, L => match L[i]? with
    | some x => workN nm f (i + 1) (findN L (nm x))
    | none => L
theorem findN_nil (L : List Int) : findN L [] = L := rfl
theorem findN_cons (L : List Int) (x : Int) (xs : List Int) : findN L (x :: xs) = findN (pushN L x) xs := rfl
theorem findN_take (L xs : List Int) (k : Nat) (hk : k < xs.length) : findN L (xs.take (k + 1)) = pushN (findN L (xs.take k)) xs[k] := by
  rw [List.take_succ_eq_append_getElem hk]
  unfold findN
  rw [List.foldl_append]
  rfl
theorem pushN_sub {P : Int → Prop} {L : List Int} {x : Int} (h : ∀ y ∈ L, P y) (hx : P x) : ∀ y ∈ pushN L x, P y := by
  unfold pushN
  split
  · exact h
  · intro y hy
    rcases List.mem_append.1 hy with q | q
    · exact h y q
    · rw [List.mem_singleton.1 q]; exact hx
theorem pushN_nodup {L : List Int} {x : Int} (h : L.Nodup) : (pushN L x).Nodup := by
  unfold pushN
  split
  · exact h
  · rename_i hx
    rw [List.nodup_append]
    exact ⟨h, by simp, fun a ha b hb => by rw [List.mem_singleton.1 hb]; intro e; exact hx (e ▸ ha)⟩
theorem findN_sub {P : Int → Prop} : ∀ {xs L : List Int}, (∀ y ∈ L, P y) → (∀ y ∈ xs, P y) → ∀ y ∈ findN L xs, P y
  | [], _, h, _ => h
  | x :: xs, _, h, hx => findN_sub (xs := xs) (pushN_sub h (hx x (by simp))) (fun y hy => hx y (by simp [hy]))
theorem findN_nodup : ∀ {xs L : List Int}, L.Nodup → (findN L xs).Nodup
  | [], _, h => h
  | _ :: xs, _, h => findN_nodup (xs := xs) (pushN_nodup h)
theorem pushN_pre (L : List Int) (x : Int) : ∃ R, pushN L x = L ++ R := by
  unfold pushN
  split
  · exact ⟨[], by simp⟩
  · exact ⟨[x], rfl⟩
theorem findN_pre : ∀ (xs L : List Int), ∃ R, findN L xs = L ++ R
  | [], L => ⟨[], by simp [findN]⟩
  | x :: xs, L => by
    obtain ⟨R, h⟩ := pushN_pre L x
    obtain ⟨R2, h2⟩ := findN_pre xs (pushN L x)
    exact ⟨R ++ R2, by rw [findN_cons, h2, h, List.append_assoc]⟩
theorem findN_len (xs L : List Int) : L.length ≤ (findN L xs).length := by
  obtain ⟨R, h⟩ := findN_pre xs L
  rw [h, List.length_append]; omega
/-- Numbers that differ and lie among these are no more than these. -/
theorem nodup_len : ∀ {L S : List Int}, L.Nodup → (∀ y ∈ L, y ∈ S) → L.length ≤ S.length
  | [], _, _, _ => by simp
  | x :: L, S, h, hs => by
    rw [List.nodup_cons] at h
    have hx : x ∈ S := hs x (by simp)
    have h1 : L.length ≤ (S.erase x).length := nodup_len h.2 (fun y hy => (List.mem_erase_of_ne (fun e => h.1 (by rw [← e]; exact hy))).2 (hs y (by simp [hy])))
    rw [List.length_erase_of_mem hx] at h1
    have : 0 < S.length := List.length_pos_of_mem hx
    rw [List.length_cons]; omega
theorem workN_stop (nm : Int → List Int) : ∀ (f i : Nat) (L : List Int), L.length ≤ i → workN nm f i L = L
  | 0, _, _, _ => rfl
  | f + 1, i, L, h => by unfold workN; rw [List.getElem?_eq_none h]
theorem workN_step (nm : Int → List Int) (f i : Nat) (L : List Int) (h : i < L.length) : workN nm (f + 1) i L = workN nm f (i + 1) (findN L (nm L[i])) := by
  rw [workN, List.getElem?_eq_getElem h]
/-- What the work ends with: m is how many there can be. -/
def closN (nm : Int → List Int) (m : Nat) (first : List Int) : List Int := workN nm m 0 (findN [] first)
end Go.Proofs.Ythjfgibflbbgmaa.cl
