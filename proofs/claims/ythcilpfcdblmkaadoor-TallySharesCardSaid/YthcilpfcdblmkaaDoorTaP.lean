/-
  Tally: what stands by place, and what was said in a row (pure).
-/
import Derived.Test.YthcilpfcdblmkaaDoorBase
namespace Go.Proofs.YthcilpfcdblmkaaDoor

/-- What a validator said, if it said anything. -/
structure Wd (κ : Type) where
  said : Bool
  key : κ
  thing : Int
section
variable {κ : Type}
def tellAt (W : List (Wd κ)) (i : Nat) : Option (Nat × Wd κ) := match W[i]? with
  | some x => if x.said then some (i, x) else none
  | none => none
/-- The words that are there among the first k places. -/
def toldK (W : List (Wd κ)) (k : Nat) : List (Nat × Wd κ) := (List.range k).filterMap (tellAt W)
def toldL (W : List (Wd κ)) : List (Nat × Wd κ) := toldK W W.length
theorem toldK_succ (W : List (Wd κ)) (k : Nat) (h : k < W.length) : toldK W (k + 1) = toldK W k ++ if W[k].said then [(k, W[k])] else [] := by
  rw [toldK, toldK, List.range_succ, List.filterMap_append]
  congr 1
  simp only [List.filterMap_cons, List.filterMap_nil, tellAt, List.getElem?_eq_getElem h]
  cases W[k].said <;> rfl
theorem toldK_yes {W : List (Wd κ)} {k : Nat} (h : k < W.length) (hs : W[k].said = true) : toldK W (k + 1) = toldK W k ++ [(k, W[k])] := by rw [toldK_succ W k h, if_pos hs]
theorem toldK_no {W : List (Wd κ)} {k : Nat} (h : k < W.length) (hs : W[k].said = false) : toldK W (k + 1) = toldK W k := by rw [toldK_succ W k h, if_neg (by simp [hs]), List.append_nil]
theorem toldK_length_le (W : List (Wd κ)) (k : Nat) : (toldK W k).length ≤ k := Nat.le_trans (List.length_filterMap_le _ _) (by simp)
theorem toldK_mem {W : List (Wd κ)} {k : Nat} {x : Nat × Wd κ} (h : x ∈ toldK W k) : x.1 < k ∧ W[x.1]? = some x.2 ∧ x.2.said = true := by
  obtain ⟨i, hi, h⟩ := List.mem_filterMap.1 h
  unfold tellAt at h
  split at h
  · rename_i y hy
    split at h
    · cases h; exact ⟨List.mem_range.1 hi, hy, by assumption⟩
    · cases h
  · cases h
/-- The places, the things of those that said key, among the first k places. -/
def pickK [DecidableEq κ] (key : κ) (l : List (Nat × Wd κ)) : List (Nat × Wd κ) := l.filter fun x => decide (x.2.key = key)
def placesL (l : List (Nat × Wd κ)) : List Int := l.map fun x => (x.1 : Int)
def thingsL (l : List (Nat × Wd κ)) : List Int := l.map fun x => x.2.thing
def whoL [DecidableEq κ] (W : List (Wd κ)) (key : κ) : List Int := placesL (pickK key (toldL W))
def thgL [DecidableEq κ] (W : List (Wd κ)) (key : κ) : List Int := thingsL (pickK key (toldL W))
theorem pickK_yes [DecidableEq κ] {key : κ} {l : List (Nat × Wd κ)} {x : Nat × Wd κ} (h : x.2.key = key) : pickK key (l ++ [x]) = pickK key l ++ [x] := by simp [pickK, h]
theorem pickK_no [DecidableEq κ] {key : κ} {l : List (Nat × Wd κ)} {x : Nat × Wd κ} (h : ¬ x.2.key = key) : pickK key (l ++ [x]) = pickK key l := by simp [pickK, h]
theorem pickK_length [DecidableEq κ] (key : κ) (l : List (Nat × Wd κ)) : (pickK key l).length ≤ l.length := List.length_filter_le _ _
theorem whoL_length [DecidableEq κ] (W : List (Wd κ)) (key : κ) : (whoL W key).length ≤ W.length := by
  rw [whoL, placesL, List.length_map]
  exact Nat.le_trans (pickK_length _ _) (toldK_length_le _ _)
theorem thgL_length [DecidableEq κ] (W : List (Wd κ)) (key : κ) : (thgL W key).length ≤ W.length := by
  rw [thgL, thingsL, List.length_map]
  exact Nat.le_trans (pickK_length _ _) (toldK_length_le _ _)
theorem tellAt_set {W : List (Wd κ)} {i j : Nat} {x : Wd κ} (hi : i < W.length) (hx : x.said = true) : tellAt (W.set i x) j = if i = j then some (i, x) else tellAt W j := by
  rw [tellAt, List.getElem?_set]
  by_cases h : i = j
  · subst h
    simp [hi, hx]
  · simp [h, tellAt]
/-- All words together: one more when a place speaks that had not. -/
theorem toldK_set_length {W : List (Wd κ)} {i : Nat} {x : Wd κ} (hi : i < W.length) (hx : x.said = true) (hw : W[i].said = false) : ∀ k, (toldK (W.set i x) k).length = (toldK W k).length + if i < k then 1 else 0
  | 0 => by simp [toldK]
  | k + 1 => by
    have ih := toldK_set_length hi hx hw k
    rw [toldK, toldK, List.range_succ, List.filterMap_append, List.filterMap_append, List.length_append, List.length_append]
    rw [toldK, toldK] at ih
    rw [ih]
    simp only [List.filterMap_cons, List.filterMap_nil, tellAt_set hi hx]
    by_cases h : i = k
    · subst h
      have : tellAt W i = none := by simp [tellAt, List.getElem?_eq_getElem hi, hw]
      simp [this]
    · have e : (if i < k + 1 then 1 else 0) = if i < k then 1 else 0 := by
        by_cases h2 : i < k
        · rw [if_pos h2, if_pos (by omega)]
        · rw [if_neg h2, if_neg (by omega)]
      rw [if_neg h, e]
      omega
theorem toldL_set_length {W : List (Wd κ)} {i : Nat} {x : Wd κ} (hi : i < W.length) (hx : x.said = true) (hw : W[i].said = false) : (toldL (W.set i x)).length = (toldL W).length + 1 := by
  rw [toldL, toldL, List.length_set, toldK_set_length hi hx hw, if_pos hi]
end

/-- A word of the row. -/
structure Wm where
  key : Int
  who : Int
  thing : Int
/-- What the words of the row say of a key: by place, then in their order. -/
def saidM (ms : List Wm) (key : Int) (n : Nat) : List (Nat × Int) := (List.range n).flatMap fun (i : Nat) => (ms.filter fun m => decide (m.who = (i : Int)) && decide (m.key = key)).map fun m => (i, m.thing)
/-- The words by place are those of the row. -/
def Agree (W : List (Wd Int)) (ms : List Wm) : Prop :=
  (∀ i (h : i < W.length), (ms.filter fun m => decide (m.who = (i : Int))) = if W[i].said then [⟨W[i].key, i, W[i].thing⟩] else []) ∧ ms.length = (toldL W).length
theorem said_told {W : List (Wd Int)} {ms : List Wm} (h : ∀ i (h : i < W.length), (ms.filter fun m => decide (m.who = (i : Int))) = if W[i].said then [⟨W[i].key, i, W[i].thing⟩] else []) (key : Int) : ∀ n, n ≤ W.length → saidM ms key n = (pickK key (toldK W n)).map fun x => (x.1, x.2.thing)
  | 0, _ => rfl
  | n + 1, hn => by
    have ih := said_told h key n (by omega)
    rw [saidM, List.range_succ, List.flatMap_append, ← saidM, ih]
    rw [toldK_succ W n (by omega), pickK, pickK, List.filter_append, List.map_append]
    congr 1
    have e : (ms.filter fun m => decide (m.who = (n : Int)) && decide (m.key = key)) = (ms.filter fun m => decide (m.who = (n : Int))).filter fun m => decide (m.key = key) := by
      rw [List.filter_filter]
      refine List.filter_congr fun m _ => ?_
      rw [Bool.and_comm]
    simp only [List.flatMap_cons, List.flatMap_nil, List.append_nil]
    rw [e, h n (by omega)]
    cases W[n].said
    · simp
    · by_cases hk : W[n].key = key <;> simp [hk]
theorem said_who {W : List (Wd Int)} {ms : List Wm} (h : Agree W ms) (key : Int) : (saidM ms key W.length).map (fun x => (x.1 : Int)) = whoL W key := by
  rw [said_told h.1 key _ (Nat.le_refl _), List.map_map]; rfl
theorem said_thg {W : List (Wd Int)} {ms : List Wm} (h : Agree W ms) (key : Int) : (saidM ms key W.length).map (·.2) = thgL W key := by
  rw [said_told h.1 key _ (Nat.le_refl _), List.map_map]; rfl
theorem agree_twice {W : List (Wd Int)} {ms : List Wm} (h : Agree W ms) {i : Nat} (hi : i < W.length) : W[i].said = true ↔ ∃ m ∈ ms, m.who = (i : Int) := by
  have h1 := h.1 i hi
  constructor
  · intro hs
    rw [if_pos hs] at h1
    have : (⟨W[i].key, i, W[i].thing⟩ : Wm) ∈ ms.filter fun m => decide (m.who = (i : Int)) := by rw [h1]; exact List.mem_cons_self
    exact ⟨_, (List.mem_filter.1 this).1, rfl⟩
  · rintro ⟨m, hm, e⟩
    have : m ∈ ms.filter fun m => decide (m.who = (i : Int)) := List.mem_filter.2 ⟨hm, by simp [e]⟩
    rw [h1] at this
    by_cases hs : W[i].said = true
    · exact hs
    · rw [if_neg hs] at this; cases this
theorem agree_put {W : List (Wd Int)} {ms : List Wm} (h : Agree W ms) {i : Nat} (hi : i < W.length) (hs : W[i].said = false) (key thing : Int) : Agree (W.set i ⟨true, key, thing⟩) (ms ++ [⟨key, i, thing⟩]) := by
  refine ⟨fun j hj => ?_, ?_⟩
  · rw [List.length_set] at hj
    rw [List.filter_append, h.1 j hj]
    by_cases e : i = j
    · subst e
      simp [hs]
    · have : ¬ (i : Int) = (j : Int) := by omega
      simp [this, List.getElem_set_ne e]
  · rw [List.length_append, h.2, toldL_set_length hi rfl hs]; rfl
theorem agree_none (n : Nat) : Agree (List.replicate n ⟨false, 0, 0⟩) [] := by
  refine ⟨fun i hi => by simp, ?_⟩
  have : ∀ k, toldK (List.replicate n (⟨false, 0, 0⟩ : Wd Int)) k = [] := fun k => by
    rw [toldK, List.filterMap_eq_nil_iff]
    intro i _
    rw [tellAt, List.getElem?_replicate]
    by_cases h : i < n <;> simp [h]
  rw [toldL, this]
  rfl
end Go.Proofs.YthcilpfcdblmkaaDoor
