/-
  Several texts in one: RfA, RfB.
-/
import Derived.Test.YtpdfkgmgmndcfaaGreatDoorM20h
import Derived.Lib.ConvBytes
/-
  append onto a row that came of a string: its mark lies behind its cells.
-/

namespace Go.Proofs.YtpdfkgmgmndcfaaGreatDoor
open Go.RowKit

theorem run_storeCells_atU (P : Program) (g o : Nat) (t : TypeId) (fr : Nat × Nat) (hfr : ∀ j n, j < n → n ≤ fr.1 ∨ fr = (0, 0) → ¬ (fr.1 ≤ j ∧ j < fr.2)) : ∀ (vs : List Value) (i : Nat) (cur : Array Value) (w : World), w.heap[g]? = some (.cells cur t fr) → (cur.size ≤ fr.1 ∨ fr = (0, 0)) → o + i + vs.length ≤ cur.size → (∀ v ∈ vs, v.oneCell' = true) →
    (storeCells ⟨g, o, none⟩ vs i).run P w = .ok () (w.setRow g (cur.toList.take (o + i) ++ vs ++ cur.toList.drop (o + i + vs.length)).toArray)
  | [], i, cur, w, hg, _, _, _ => by
    simp only [storeCells, List.append_nil, List.length_nil, Nat.add_zero, List.take_append_drop, Array.toArray_toList]
    rw [setRow_self w g cur t fr hg]
    rfl
  | v :: rest, i, cur, w, hg, hz, hl, h1 => by
    have hi : o + i < cur.size := by simp at hl; omega
    have hadd : (⟨g, o, none⟩ : Addr).add i = ⟨g, o + i, none⟩ := by unfold Addr.add; split <;> simp_all
    have hcell : w.cell? ⟨g, o + i, none⟩ = some cur[o + i] := by simp [World.cell?, hg, hi]
    have hfro : w.frozen? ⟨g, o + i, none⟩ = false := by
      have := hfr (o + i) cur.size hi hz
      simp [World.frozen?, hg]
      omega
    have hst : (store ((⟨g, o, none⟩ : Addr).add i) v).run P w = .ok () (w.setRow g (cur.setIfInBounds (o + i) v)) := by
      rw [hadd, run_store P w _ v _ (h1 v (by simp)), hcell]
      simp [hfro, setCell_eq_setRow w g (o + i) cur t fr v hg]
    have ih := run_storeCells_atU P g o t fr hfr rest (i + 1) (cur.setIfInBounds (o + i) v) (w.setRow g (cur.setIfInBounds (o + i) v)) (setRow_heap w g cur _ t _ hg) (by simpa using hz) (by simp at hl ⊢; omega) (fun x hx => h1 x (by simp [hx]))
    simp only [storeCells, Sem.run_bind, hst, Result.andThen_ok, ih, setRow_setRow]
    congr 3
    have e := list_seg_step cur.toList (o + i) v rest (by simp at hl ⊢; omega)
    simpa [Array.toList_setIfInBounds, Nat.add_assoc] using e
end Go.Proofs.YtpdfkgmgmndcfaaGreatDoor
/-
  A row of bytes that came of a string, and grows: its mark lies behind its cells, or nowhere.
-/
namespace Go.Proofs.YtpdfkgmgmndcfaaGreatDoor
open Go.RowKit

def ownsU (w : World) (base : Nat) (e : TypeId) (v : Value) (n : Nat) (xs : List Value) : Prop :=
  xs.length = n ∧ ∃ g cap cur fr, v = .slice (some ⟨g, 0, none⟩) n cap ∧ base ≤ g ∧ w.heap[g]? = some (.cells cur e fr) ∧ (cur.size ≤ fr.1 ∨ fr = (0, 0)) ∧ n ≤ cap ∧ cap ≤ maxLen ∧ cur.size = cap ∧ cur.toList.take n = xs
section
variable {w : World} {base : Nat} {e : TypeId} {v : Value} {n : Nat} {xs : List Value}
theorem ownsU.of (h : w.ownsRow base e 1 v n xs) (hn : 0 < n) : ownsU w base e v n xs := by
  refine ⟨by simpa using h.1, ?_⟩
  rcases h.2 with ⟨_, h0⟩ | ⟨g, cap, cur, hv, hb, hg, hnc, hcm, hsz, ht⟩
  · omega
  · exact ⟨g, cap, cur, (0, 0), hv, hb, hg, .inr rfl, hnc, hcm, by simpa using hsz, by simpa using ht⟩
theorem ownsU.kept {w' : World} (h : ownsU w base e v n xs) (hg : w.grownBy w' none) : ownsU w' base e v n xs := by
  obtain ⟨hl, g, cap, cur, fr, hv, hb, hgg, r⟩ := h
  exact ⟨hl, g, cap, cur, fr, hv, hb, (hg.block g (Array.getElem?_eq_some_iff.1 hgg).1 (by simp)).trans hgg, r⟩
theorem ownsU.lt (h : ownsU w base e v n xs) : ∀ k, v.ownBlock = some k → base ≤ k ∧ k < w.heap.size := by
  obtain ⟨hl, g, cap, cur, fr, rfl, hb, hgg, r⟩ := h
  intro k hk
  simp [Value.ownBlock] at hk
  subst hk
  exact ⟨hb, (Array.getElem?_eq_some_iff.1 hgg).1⟩
theorem ownsU.cells (h : ownsU w base e v n xs) : ∃ g cap, v = .slice (some ⟨g, 0, none⟩) n cap ∧ base ≤ g ∧ n ≤ cap ∧ ∀ j u, xs[j]? = some u → w.cell? ⟨g, j, none⟩ = some u := by
  obtain ⟨hl, g, cap, cur, fr, hv, hb, hgg, hfr, hnc, hcm, hsz, ht⟩ := h
  refine ⟨g, cap, hv, hb, hnc, fun j u hu => ?_⟩
  have hj := (List.getElem?_eq_some_iff.1 hu).1
  rw [← ht, List.getElem?_take, if_pos (by omega)] at hu
  rw [show w.cell? ⟨g, j, none⟩ = cur[j]? by simp [World.cell?, hgg], ← Array.getElem?_toList]
  exact hu
end

/-- []byte(s). -/
theorem ownsU_conv (w : World) (e : TypeId) (s : ByteArray) (hs : s.size ≤ maxLen) : ownsU (Lib.bytesWorld w e s) w.heap.size e (.slice (some ⟨w.heap.size, 0, none⟩) s.size (grownCap w s.size 0 e)) s.size (s.data.toList.map fun b => Value.int .u8 b.toNat) := by
  have hge := grownCap_ge w s.size 0 e
  have hsz : (Lib.bytesCells w e s).size = grownCap w s.size 0 e := by
    simp only [Lib.bytesCells, Array.size_append, Array.size_map, Array.size_replicate]
    have : s.data.size = s.size := rfl
    omega
  refine ⟨by simp, w.heap.size, _, _, _, rfl, Nat.le_refl _, Lib.bytesWorld_at_new w e s, .inl (Nat.le_refl _), hge, grownCap_le_maxLen w _ _ e hs, hsz, ?_⟩
  simp only [Lib.bytesCells, Array.toList_append, Array.toList_map]
  exact List.take_left' (by simp)
theorem conv_grown (w : World) (e : TypeId) (s : ByteArray) : w.grownBy (Lib.bytesWorld w e s) none := by
  refine ⟨?_, ?_, ?_, ?_, fun k hk _ => Lib.bytesWorld_at_old w _ s k hk⟩
  · simp [Lib.bytesWorld, World.freeze, World.alloc, World.drew, -World.alloc_eq, -World.drew_eq]
  · simp [Lib.bytesWorld, World.freeze, World.alloc, World.drew, -World.alloc_eq, -World.drew_eq]
  · simp [Lib.bytesWorld, World.freeze, World.alloc, World.drew, -World.alloc_eq, -World.drew_eq]
  · rw [Lib.bytesWorld_size]; omega

section
variable {P : Program} (w : World)
theorem run_append_roomU (t ty e : TypeId) (i : TypeInfo) (ht : P.underlying t = some (.slice e)) (hi : P.info? e = some i) (hsize : i.size = 1)
    (g sLen sCap : Nat) (cur : Array Value) (fr : Nat × Nat) (hg : w.heap[g]? = some (.cells cur e fr)) (hfr : cur.size ≤ fr.1 ∨ fr = (0, 0))
    (a : Addr) (m c : Nat) (news : List Value) (hl : news.length = m) (hnews : ∀ j u, news[j]? = some u → w.cell? (a.add j) = some u) (h1 : ∀ u ∈ news, u.oneCell' = true)
    (hroom : sLen + m ≤ sCap) (hfit : sLen + news.length ≤ cur.size) :
    (Builtin.append_ #[t, t] ty #[.slice (some ⟨g, 0, none⟩) sLen sCap, .slice (some a) m c]).run P w =
      .ok (.slice (some ⟨g, 0, none⟩) (sLen + m) sCap) (w.setRow g (cur.toList.take sLen ++ news ++ cur.toList.drop (sLen + news.length)).toArray) := by
  have hf := run_firstCells_some (P := P) w i.size m a m c news (by rw [hl, hsize, Nat.mul_one]) hnews
  have hst := run_storeCells_atU P g sLen e fr (fun j n h1 h2 h3 => by
    rcases h2 with h2 | h2
    · omega
    · rw [h2] at h3; simp at h3) news 0 cur w hg hfr (by simpa using hfit) h1
  simp only [Nat.add_zero] at hst
  rw [hsize] at hf
  simp [Builtin.append_, run_underlying ht, sizeOf, typeInfo, hi, hsize, Builtin.lenOf, hroom, hf, Addr.add_lit, hst]

theorem run_append_U (base : Nat) (t ty e : TypeId) (i : TypeInfo) (z : Value) (ht : P.underlying t = some (.slice e)) (hi : P.info? e = some i) (hz : i.zero = some z)
    (hsize : i.size = 1) (hby : i.bytes = 1) (hzs : z.cells.size = 1)
    (v : Value) (n : Nat) (xs : List Value) (hown : ownsU w base e v n xs)
    (a : Addr) (m c : Nat) (news : List Value) (hl : news.length = m) (hnews : ∀ j u, news[j]? = some u → w.cell? (a.add j) = some u) (h1 : ∀ u ∈ news, u.oneCell' = true)
    (h63 : n + m ≤ 1000000) (hbase : base ≤ w.heap.size) :
    ∃ v' w', (Builtin.append_ #[t, t] ty #[v, .slice (some a) m c]).run P w = .ok v' w' ∧ ownsU w' base e v' (n + m) (xs ++ news) ∧ w.grownBy w' v.ownBlock := by
  have hown' := hown
  obtain ⟨hxl, g, cap, cur, fr, rfl, hb, hgg, hfr, hnc, hcm, hsz, htk⟩ := hown
  have hlen : (xs ++ news).length = n + m := by rw [List.length_append, hxl, hl]
  by_cases hroom : n + m ≤ cap
  · have hr := run_append_roomU (P := P) w t ty e i ht hi hsize g n cap cur fr hgg hfr a m c news hl hnews h1 hroom (by omega)
    refine ⟨_, _, hr, ⟨hlen, g, cap, _, fr, rfl, hb, setRow_heap w g cur _ e fr hgg, ?_, hroom, hcm, ?_, ?_⟩, ⟨rfl, rfl, rfl, by simp, fun k _ hk => setRow_other w g k _ (fun e => hk (by simp [Value.ownBlock, e]))⟩⟩
    · rcases hfr with h | h
      · left
        simp only [List.size_toArray, List.length_append, List.length_take, List.length_drop, Array.length_toList]
        omega
      · exact .inr h
    · simp only [List.size_toArray, List.length_append, List.length_take, List.length_drop, Array.length_toList]
      omega
    · rw [htk, ← hlen]
      exact List.take_left
  · have holds : ∀ j u, xs[j]? = some u → w.cell? ((⟨g, 0, none⟩ : Addr).add j) = some u := fun j u hu => by
      obtain ⟨g', cap', hv, _, _, hc⟩ := hown'.cells
      cases hv
      have hadd : (⟨g, 0, none⟩ : Addr).add j = ⟨g, j, none⟩ := by unfold Addr.add; split <;> simp_all
      rw [hadd]; exact hc j u hu
    have hge := grownCap_ge w (n + m) cap e
    have hr := run_append_grow (P := P) w t ty e i z ht hi hz ⟨g, 0, none⟩ n cap xs (by rw [hxl, hsize, Nat.mul_one]) holds a m c news (by rw [hl, hsize, Nat.mul_one]) hnews (by omega) (by omega) (growslice_fits (by omega) (by rw [hby]; omega))
    have hgr : ∀ o : Obj, w.grownBy (w.drew.alloc o) (Value.ownBlock (.slice (some ⟨g, 0, none⟩) n cap)) := fun o => ⟨rfl, rfl, rfl, by simp, fun k hk _ => Below.heap_alloc w.drew o k hk⟩
    refine ⟨_, _, hr, ⟨hlen, w.heap.size, grownCap w (n + m) cap e, _, (0, 0), rfl, hbase, heap_alloc_new w.drew _, .inr rfl, hge, grownCap_le_maxLen w _ _ e (by simp only [maxLen]; omega), ?_, ?_⟩, hgr _⟩
    · simp only [Array.size_append, List.size_toArray, size_zeroCells, hzs, hxl, hl]
      omega
    · simp only [Array.toList_append, List.append_assoc]
      rw [← List.append_assoc, ← hlen]
      exact List.take_left
end

theorem wpList_append_U {P : Program} {w0 : World} {ops : Array Oper} {rest : List Oper} {o : Oper} {a : Act} {Q : Exit → Act → World → Prop} (hgd : o.guard = none) (s x : Operand) (t : TypeId)
    (ho : o.op = .call { callee := .builtin .append, args := #[s, x], argTypes := #[t, t] }) (base : Nat) (e e0 : TypeId) (i : TypeInfo) (ht : P.underlying t = some (.slice e)) (hi : P.info? e = some i) (hz : i.zero = some (.int .u8 0)) (hsize : i.size = 1) (hby : i.bytes = 1)
    (v : Value) (n : Nat) (xs : List Value) (hs : a.eval s = v) (hown : ownsU w0 base e v n xs) (y : Int) (hx : a.eval x = .slice (some ⟨w0.heap.size, 0, none⟩) 1 1) (hn : n ≤ 100000) (hbase : base ≤ w0.heap.size)
    (h : ∀ v' w', ownsU w' base e v' (n + 1) (xs ++ [.int .u8 y]) → w0.grownBy w' v.ownBlock → wpList P ops Q rest (a.put o.dst v') w') : wpList P ops Q (o :: rest) a (w0.alloc (.cells #[.int .u8 y] e0)) := by
  refine wpList_plain hgd fun K hK => ?_
  have hown1 : ownsU (w0.alloc (.cells #[.int .u8 y] e0)) base e v n xs := hown.kept (World.grownBy_alloc w0 _ none)
  obtain ⟨v', w', hr, h2, h3⟩ := run_append_U (P := P) _ base t o.type e i (.int .u8 0) ht hi hz hsize hby rfl v n xs hown1 ⟨w0.heap.size, 0, none⟩ 1 1 [.int .u8 y] rfl (fun j u hu => by
    have : j = 0 := by
      have := (List.getElem?_eq_some_iff.1 hu).1
      simp at this
      omega
    subst this
    have h1 := (Blk.new w0 e0 #[.int .u8 y]).cell 0
    rw [show (⟨w0.heap.size, 0, none⟩ : Addr).add 0 = ⟨w0.heap.size, 0, none⟩ by simp [Addr.add], h1]
    simpa using hu) (by simp [Value.oneCell']) (by omega) (by rw [World.size_alloc]; omega)
  unfold Oper.wp execOp
  simp only [ho, resolve, invoke, builtin, Sem.run_bind, Sem.run_pure, Result.andThen_ok, List.map_toArray, List.map_cons, List.map_nil, hs, hx, hr]
  exact hK _ _ (h v' w' h2 (grown_trans (World.grownBy_alloc w0 _ _) h3))
end Go.Proofs.YtpdfkgmgmndcfaaGreatDoor
