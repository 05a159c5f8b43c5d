/-
  Pool: a pool in memory; New, Len, Has, Add, Drop.
-/
import Derived.Test.YtnhjokcjdjfijaaDoorPlC
import Derived.Test.YtnhjokcjdjfijaaDoorVars
namespace Go.Proofs.YtnhjokcjdjfijaaDoor
open Go.RowKit

/-- A pool at p in which L wait; all that is its own lies in S. -/
def PoolIs (w : World) (S : Nat → Prop) (p : Nat) (L : List (List UInt8)) : Prop :=
  S p ∧ ∃ (A : Option Addr) (n c : Nat) (zs : List (Value × List UInt8)), Blk w p 58 #[.slice A n c] ∧ RowS w (fun b => S b ∧ b ≠ p) A n c zs ∧ zs.map (·.2) = L
section
variable {w w' : World} {S T F : Nat → Prop} {p : Nat} {L : List (List UInt8)}
theorem PoolIs.kept (h : PoolIs w S p L) (hk : Kept F w w') (hF : ∀ k, F k → ¬ S k) : PoolIs w' S p L := by
  obtain ⟨h1, A, n, c, zs, h2, h3, h4⟩ := h
  exact ⟨h1, A, n, c, zs, h2.kept hk (fun h => hF _ h h1), h3.kept hk (fun k hf hs => hF k hf hs.1), h4⟩
theorem PoolIs.lt (h : PoolIs w S p L) : p < w.heap.size := by obtain ⟨_, A, n, c, zs, h2, _⟩ := h; exact h2.lt
theorem PoolIs.mono (h : PoolIs w S p L) (hST : ∀ k, k < w.heap.size → S k → T k) : PoolIs w T p L := by
  have hp := h.lt
  obtain ⟨h1, A, n, c, zs, h2, h3, h4⟩ := h
  exact ⟨hST _ hp h1, A, n, c, zs, h2, h3.mono (fun k hk h => ⟨hST k hk h.1, h.2⟩), h4⟩
end

theorem pool_new (w : World) : Calls Tryd.prog 9 #[] w fun e w' => e = .returned (.pointer (some ⟨w.heap.size, 0, none⟩)) ∧ w' = w.alloc (.cells #[.slice none 0 0] 58) := by
  go_enter Tryd.func9, Tryd.ntmps9
  go_wp2
  go_ret
  exact ⟨rfl, rfl⟩
theorem PoolIs.new (w : World) {S : Nat → Prop} (hS : S w.heap.size) : PoolIs (w.alloc (.cells #[.slice none 0 0] 58)) S w.heap.size [] :=
  ⟨hS, none, 0, 0, [], Blk.new _ _ _, RowS.nil, rfl⟩
theorem pool_len (w : World) (S : Nat → Prop) (p : Nat) (L : List (List UInt8)) (h : PoolIs w S p L) : Calls Tryd.prog 21 #[.pointer (some ⟨p, 0, none⟩)] w fun e w' => e = .returned (.int .i64 (L.length : Int)) ∧ w' = w := by
  obtain ⟨h1, A, n, c, zs, h2, h3, h4⟩ := h
  have hl : n = L.length := by rw [← h4, List.length_map, h3.length]
  have c0 := h2.cell 0
  simp only [List.getElem?_toArray, List.getElem?_cons_zero] at c0
  have HL := Lib.hid hl
  clear h2 h3 h4 hl
  go_enter Tryd.func21, Tryd.ntmps21
  go_wp2
  go_ret
  exact ⟨by rw [← HL.out]; rfl, rfl⟩
/-- Is x one of L? -/
def isIn (L : List (List UInt8)) (x : List UInt8) : Bool := L.any fun y => decide (y = x)
theorem pool_has (w : World) (S : Nat → Prop) (p : Nat) (L : List (List UInt8)) (h : PoolIs w S p L) (hL : L.length ≤ 100000) (B : Option Addr) (d : Nat) (x : List UInt8) (hx : BytesAt w B x) :
    Calls Tryd.prog 22 #[.pointer (some ⟨p, 0, none⟩), .slice B x.length d] w fun e w' => e = .returned (.bool (isIn L x)) ∧ w.grownBy w' none := by
  obtain ⟨h1, A, n, c, zs, h2, h3, h4⟩ := h
  have hl : n = L.length := by rw [← h4, List.length_map, h3.length]
  have c0 := h2.cell 0
  simp only [List.getElem?_toArray, List.getElem?_cons_zero] at c0
  have hls := h3.ls
  rw [h4] at hls
  have HI := Lib.hid (in_is w A n c L hl.symm (by omega) hls B d x hx)
  clear h2 h3 h4 hl hls hx
  go_enter Tryd.func22, Tryd.ntmps22
  go_wp2_with fail
  refine HI.out.mono ?_
  rintro e w1 ⟨rfl, k1⟩
  have K1 := Lib.hid k1
  clear k1
  go_wp2_with fail
  go_ret
  exact ⟨rfl, K1.out⟩

/-- What Add answers, by the error's number. -/
def addE (L : List (List UInt8)) (x : List UInt8) : Nat := if x.length < 1 ∨ 16 < x.length then 4 else if isIn L x = true then 17 else if 16 ≤ L.length then 8 else 0
def addL (L : List (List UInt8)) (x : List UInt8) : List (List UInt8) := if addE L x = 0 then L ++ [x] else L

/-- One more row's element: what stands when the pool's variable is written. -/
theorem push_step {w w1 w2 w3 : World} {S : Nat → Prop} {p n c n' c' : Nat} {A A' B : Option Addr} {d : Nat} {zs : List (Value × List UInt8)} {L : List (List UInt8)} {x : List UInt8} (hS : S p) (hb : Blk w p 58 #[.slice A n c]) (hr : RowS w (fun b => S b ∧ b ≠ p) A n c zs) (hs : zs.map (·.2) = L)
    (k1 : w.grownBy w1 none) (hB : w2.ownsRow w1.heap.size 5 1 (.slice B x.length d) x.length (Lib.byteCells x)) (k2 : w1.grownBy w2 none)
    (hown : w3.ownsRow 0 30 1 (.slice A' n' c') (n + 1) (zs.map (·.1) ++ [.slice B x.length d])) (hn' : n' = n + 1)
    (k3 : (w2.alloc (.cells #[.slice B x.length d] 30)).grownBy w3 (Value.slice A n c).ownBlock) (hat : (Value.slice A' n' c').ownBlock = (Value.slice A n c).ownBlock ∨ (Value.slice A' n' c').ownBlock = some (w2.alloc (.cells #[.slice B x.length d] 30)).heap.size) :
    PoolIs (w3.setCell ⟨p, 0, none⟩ (.slice A' n' c')) (upTo S w.heap.size (w3.setCell ⟨p, 0, none⟩ (.slice A' n' c')).heap.size) p (L ++ [x]) ∧ Kept S w (w3.setCell ⟨p, 0, none⟩ (.slice A' n' c')) := by
  subst hn'
  have hpl := hb.lt
  have hO : ∀ k, (Value.slice A n c).ownBlock = some k → S k ∧ k ≠ p := fun k hk => by
    rcases A with _ | ad
    · simp [Value.ownBlock] at hk
    · have e : ad.block = k := by simpa [Value.ownBlock] using hk
      subst e; exact hr.2.1 ad rfl
  have hOl : ∀ k, (Value.slice A n c).ownBlock = some k → k < w.heap.size := fun k hk => (hr.1.lt k hk).2
  have K1 : Kept (fun _ => False) w w2 := Kept.of_grown (grown_trans k1 k2) fun _ e => by cases e
  have K3 : Kept (fun j => (Value.slice A n c).ownBlock = some j) w2 w3 := ((Kept.refl _ w2).alloc (.cells #[.slice B x.length d] 30)).next (Kept.of_grown (F := fun j => (Value.slice A n c).ownBlock = some j) k3 (fun _ e => e)) (fun _ _ h => h)
  have KS : Kept (fun j => j = p) w3 (w3.setCell ⟨p, 0, none⟩ (.slice A' (n + 1) c')) := (Kept.refl (fun j => j = p) w3).set (p := ⟨p, 0, none⟩) (.inl rfl) _
  have s1 := k1.size
  have s2 := k2.size
  have s3 := K3.size
  have s4 := KS.size
  have hA' : ∀ ad, A' = some ad → (S ad.block ∧ ad.block ≠ p) ∨ w2.heap.size < ad.block ∧ ad.block < w3.heap.size := fun ad e => by
    subst e
    rcases hat with h | h
    · exact .inl (hO _ (h.symm.trans rfl))
    · have e : ad.block = w2.heap.size + 1 := by simpa [Value.ownBlock] using h
      have := (hown.lt ad.block rfl).2
      exact .inr ⟨by omega, this⟩
  have hA'' : ∀ ad, A' = some ad → ad.block ≠ p ∧ upTo S w.heap.size (w3.setCell ⟨p, 0, none⟩ (.slice A' (n + 1) c')).heap.size ad.block := fun ad e => by
    rcases hA' ad e with h | h
    · exact ⟨h.2, .inl h.1⟩
    · exact ⟨by omega, .inr ⟨by omega, by omega⟩⟩
  have hb3 : Blk w3 p 58 #[.slice A n c] := (hb.kept K1 (fun h => h)).kept K3 (fun h => (hO p h).2 rfl)
  refine ⟨⟨.inl hS, A', n + 1, c', zs ++ [(.slice B x.length d, x)], by simpa using hb3.set 0 (.slice A' (n + 1) c'), ⟨?_, fun ad e => ⟨(hA'' ad e).2, (hA'' ad e).1⟩, fun z hz => ?_⟩, by simp [hs]⟩, ?_⟩
  · rw [List.map_append]
    exact own_kept hown KS (fun k hk e => by
      rcases A' with _ | ad
      · simp [Value.ownBlock] at hk
      · have e2 : ad.block = k := by simpa [Value.ownBlock] using hk
        have e : k = p := e
        exact (hA'' ad rfl).1 (by omega))
  · rcases List.mem_append.1 hz with hz | hz
    · have h0 := hr.2.2 z hz
      have hlt : ∀ B0 cB, z.1 = .slice B0 z.2.length cB → BytesAt w B0 z.2 → ∀ ad, B0 = some ad → z.2 ≠ [] → ad.block < w.heap.size := fun B0 cB _ hb ad e hne => by
        obtain ⟨ad', e', hc⟩ := hb hne
        rw [e] at e'
        injection e' with e'
        subst e'
        have := World.block_lt_of_cell? w _ (hc 0 (List.length_pos_iff.2 hne))
        rwa [block_add] at this
      obtain ⟨B0, c0, g1, g2, g3⟩ := h0
      have hl := hlt B0 c0 g1 g2
      have hK3 : ∀ ad, B0 = some ad → z.2 ≠ [] → ¬ (Value.slice A n c).ownBlock = some ad.block := fun ad e hne h => by
        rcases A with _ | a0
        · simp [Value.ownBlock] at h
        · exact (g3 ad e hne).2.1 a0 rfl (by simpa [Value.ownBlock] using h)
      refine ⟨B0, c0, g1, ((g2.kept' K1 (fun _ _ _ h => h)).kept' K3 (fun ad e hne h => ?_)).kept' KS (fun ad e hne h => (g3 ad e hne).1.2 h), fun ad e hne => ⟨⟨.inl (g3 ad e hne).1.1, (g3 ad e hne).1.2⟩, fun a ea => ?_, (((g3 ad e hne).2.2.kept K1 (fun h => h)).kept K3 (fun h => hK3 ad e hne h)).kept KS (fun h => (g3 ad e hne).1.2 h)⟩⟩
      · exact hK3 ad e hne h
      · rcases hat with h | h
        · subst ea
          rcases A with _ | a0
          · simp [Value.ownBlock] at h
          · have e1 : a.block = a0.block := by simpa [Value.ownBlock] using h
            rw [e1]; exact (g3 ad e hne).2.1 a0 rfl
        · subst ea
          have e1 : a.block = w2.heap.size + 1 := by simpa [Value.ownBlock] using h
          have := hl ad e hne
          omega
    · have hz := List.mem_singleton.1 hz
      subst hz
      have hBl := row_low hB
      have hBt := row_bytesAt hB
      have hBs : ∀ ad, B = some ad → ad.block < w2.heap.size := fun ad e => by subst e; exact (hB.lt ad.block rfl).2
      refine ⟨B, d, rfl, (hBt.kept' K3 (fun ad e _ h => ?_)).kept' KS (fun ad e _ h => ?_), fun ad e _ => ⟨⟨.inr ⟨?_, ?_⟩, ?_⟩, fun a ea => ?_, ((own_soft hB ad e).kept K3 (fun h => ?_)).kept KS (fun h => ?_)⟩⟩
      · have := hOl _ h; have := hBl ad e; omega
      · have := hBl ad e; have h : ad.block = p := h; omega
      · have := hBl ad e; omega
      · have := hBs ad e; omega
      · have := hBl ad e; omega
      · have h1 := hBl ad e
        have h2 := hBs ad e
        rcases hat with h | h
        · have h0 := hOl a.block (by rw [← h, ea]; rfl)
          omega
        · have : a.block = w2.heap.size + 1 := by rw [ea] at h; simpa [Value.ownBlock] using h
          omega
      · have := hOl _ h; have := hBl ad e; omega
      · have := hBl ad e; have h : ad.block = p := h; omega
  · exact ((K1.mono (G := S) (fun _ _ h => h.elim)).next K3 (fun k hk h => (hO k h).1)).next KS (fun k hk h => by rw [show k = p from h]; exact hS)
end Go.Proofs.YtnhjokcjdjfijaaDoor
