/- RfA, RfB, RfT, RfU -/
import Derived.Test.YtigafnbofmiknaaGreatDoorW20c
import Derived.Lib.ConvBytes
import Derived.StillTailTactics
import Derived.Great.BuildSlice
namespace Go.Proofs.YtigafnbofmiknaaGreatDoor
set_option maxRecDepth 100000
set_option maxHeartbeats 10000000
open Go.RowKit
section
theorem run_storeCells_atU (P : Program) (g o : Nat) (t : TypeId) (fr : Nat × Nat) (hfr : ∀ j n, j < n -> n <= fr.1 \/ fr = (0, 0) -> ¬ (fr.1 <= j /\ j < fr.2)) : ∀ (vs : List Value) (i : Nat) (cur : Array Value) (w : World), w.heap[g]? = some (.cells cur t fr) -> (cur.size <= fr.1 \/ fr = (0, 0)) -> o + i + vs.length <= cur.size -> (∀ v ∈ vs, v.oneCell' = true) ->
    (storeCells ⟨g, o, none⟩ vs i).run P w = .ok () (w.setRow g (cur.toList.take (o + i) ++ vs ++ cur.toList.drop (o + i + vs.length)).toArray)
 | [], i, cur, w, hg, _, _, _ => by
  simp only [storeCells, List.append_nil, List.length_nil, Nat.add_zero, List.take_append_drop, Array.toArray_toList]
  rw [setRow_self w g cur t fr hg]
  rfl
 | v :: rest, i, cur, w, hg, hz, hl, h1 => by
  have hi : o + i < cur.size := by simp at hl; omega
  have hadd : (⟨g, o, none⟩ : Addr).add i = ⟨g, o + i, none⟩ := by unfold Addr.add; split <;> simp_all
  have hcell : w.cell? ⟨g, o + i, none⟩ = some cur[o + i] := by simp [World.cell?, hg, hi]
  have hfro : w.frozen? ⟨g, o + i, none⟩ = false := by
   have := hfr (o + i) cur.size hi hz
   simp [World.frozen?, hg]
   omega
  have hst : (store ((⟨g, o, none⟩ : Addr).add i) v).run P w = .ok () (w.setRow g (cur.setIfInBounds (o + i) v)) := by
   rw [hadd, run_store P w _ v _ (h1 v (by simp)), hcell]
   simp [hfro, setCell_eq_setRow w g (o + i) cur t fr v hg]
  have ih := run_storeCells_atU P g o t fr hfr rest (i + 1) (cur.setIfInBounds (o + i) v) (w.setRow g (cur.setIfInBounds (o + i) v)) (setRow_heap w g cur _ t _ hg) (by simpa using hz) (by simp at hl ⊢; omega) (fun x hx => h1 x (by simp [hx]))
  simp only [storeCells, Sem.run_bind, hst, Result.andThen_ok, ih, setRow_setRow]
  congr 3
  have e := list_seg_step cur.toList (o + i) v rest (by simp at hl ⊢; omega)
  simpa [Array.toList_setIfInBounds, Nat.add_assoc] using e
end
section
def ownsU (w : World) (base : Nat) (e : TypeId) (v : Value) (n : Nat) (xs : List Value) : Prop :=
 xs.length = n /\ ∃ g cap cur fr, v = .slice (some ⟨g, 0, none⟩) n cap /\ base <= g /\ w.heap[g]? = some (.cells cur e fr) /\ (cur.size <= fr.1 \/ fr = (0, 0)) /\ n <= cap /\ cap <= maxLen /\ cur.size = cap /\ cur.toList.take n = xs
section
variable {w : World} {base : Nat} {e : TypeId} {v : Value} {n : Nat} {xs : List Value}
theorem ownsU.of (h : w.ownsRow base e 1 v n xs) (hn : 0 < n) : ownsU w base e v n xs := by
 refine ⟨by simpa using h.1, ?_⟩
 rcases h.2 with ⟨_, h0⟩ | ⟨g, cap, cur, hv, hb, hg, hnc, hcm, hsz, ht⟩
 · omega
 · exact ⟨g, cap, cur, (0, 0), hv, hb, hg, .inr rfl, hnc, hcm, by simpa using hsz, by simpa using ht⟩
theorem ownsU.kept {w' : World} (h : ownsU w base e v n xs) (hg : w.grownBy w' none) : ownsU w' base e v n xs := by
 obtain ⟨hl, g, cap, cur, fr, hv, hb, hgg, r⟩ := h
 exact ⟨hl, g, cap, cur, fr, hv, hb, (hg.block g (Array.getElem?_eq_some_iff.1 hgg).1 (by simp)).trans hgg, r⟩
theorem ownsU.lt (h : ownsU w base e v n xs) : ∀ k, v.ownBlock = some k -> base <= k /\ k < w.heap.size := by
 obtain ⟨hl, g, cap, cur, fr, rfl, hb, hgg, r⟩ := h
 intro k hk
 simp [Value.ownBlock] at hk
 subst hk
 exact ⟨hb, (Array.getElem?_eq_some_iff.1 hgg).1⟩
theorem ownsU.cells (h : ownsU w base e v n xs) : ∃ g cap, v = .slice (some ⟨g, 0, none⟩) n cap /\ base <= g /\ n <= cap /\ ∀ j u, xs[j]? = some u -> w.cell? ⟨g, j, none⟩ = some u := by
 obtain ⟨hl, g, cap, cur, fr, hv, hb, hgg, hfr, hnc, hcm, hsz, ht⟩ := h
 refine ⟨g, cap, hv, hb, hnc, fun j u hu => ?_⟩
 have hj := (List.getElem?_eq_some_iff.1 hu).1
 rw [<- ht, List.getElem?_take, if_pos (by omega)] at hu
 rw [show w.cell? ⟨g, j, none⟩ = cur[j]? by simp [World.cell?, hgg], <- Array.getElem?_toList]
 exact hu
end
theorem ownsU_conv (w : World) (e : TypeId) (s : ByteArray) (hs : s.size <= maxLen) : ownsU (Lib.bytesWorld w e s) w.heap.size e (.slice (some ⟨w.heap.size, 0, none⟩) s.size (grownCap w s.size 0 e)) s.size (s.data.toList.map fun b => Value.int .u8 b.toNat) := by
 have hge := grownCap_ge w s.size 0 e
 have hsz : (Lib.bytesCells w e s).size = grownCap w s.size 0 e := by
  simp only [Lib.bytesCells, Array.size_append, Array.size_map, Array.size_replicate]
  have : s.data.size = s.size := rfl
  omega
 refine ⟨by simp, w.heap.size, _, _, _, rfl, Nat.le_refl _, Lib.bytesWorld_at_new w e s, .inl (Nat.le_refl _), hge, grownCap_le_maxLen w _ _ e hs, hsz, ?_⟩
 simp only [Lib.bytesCells, Array.toList_append, Array.toList_map]
 exact List.take_left' (by simp)
theorem conv_grown (w : World) (e : TypeId) (s : ByteArray) : w.grownBy (Lib.bytesWorld w e s) none := by
 refine ⟨?_, ?_, ?_, ?_, fun k hk _ => Lib.bytesWorld_at_old w _ s k hk⟩
 · simp [Lib.bytesWorld, World.freeze, World.alloc, World.drew, -World.alloc_eq, -World.drew_eq]
 · simp [Lib.bytesWorld, World.freeze, World.alloc, World.drew, -World.alloc_eq, -World.drew_eq]
 · simp [Lib.bytesWorld, World.freeze, World.alloc, World.drew, -World.alloc_eq, -World.drew_eq]
 · rw [Lib.bytesWorld_size]; omega
section
variable {P : Program} (w : World)
theorem run_append_roomU (t ty e : TypeId) (i : TypeInfo) (ht : P.underlying t = some (.slice e)) (hi : P.info? e = some i) (hsize : i.size = 1)
    (g sLen sCap : Nat) (cur : Array Value) (fr : Nat × Nat) (hg : w.heap[g]? = some (.cells cur e fr)) (hfr : cur.size <= fr.1 \/ fr = (0, 0))
    (a : Addr) (m c : Nat) (news : List Value) (hl : news.length = m) (hnews : ∀ j u, news[j]? = some u -> w.cell? (a.add j) = some u) (h1 : ∀ u ∈ news, u.oneCell' = true)
    (hroom : sLen + m <= sCap) (hfit : sLen + news.length <= cur.size) :
    (Builtin.append_ #[t, t] ty #[.slice (some ⟨g, 0, none⟩) sLen sCap, .slice (some a) m c]).run P w =
     .ok (.slice (some ⟨g, 0, none⟩) (sLen + m) sCap) (w.setRow g (cur.toList.take sLen ++ news ++ cur.toList.drop (sLen + news.length)).toArray) := by
 have hf := run_firstCells_some (P := P) w i.size m a m c news (by rw [hl, hsize, Nat.mul_one]) hnews
 have hst := run_storeCells_atU P g sLen e fr (fun j n h1 h2 h3 => by
  rcases h2 with h2 | h2
  · omega
  · rw [h2] at h3; simp at h3) news 0 cur w hg hfr (by simpa using hfit) h1
 simp only [Nat.add_zero] at hst
 rw [hsize] at hf
 simp [Builtin.append_, run_underlying ht, sizeOf, typeInfo, hi, hsize, Builtin.lenOf, hroom, hf, Addr.add_lit, hst]
theorem run_append_U (base : Nat) (t ty e : TypeId) (i : TypeInfo) (z : Value) (ht : P.underlying t = some (.slice e)) (hi : P.info? e = some i) (hz : i.zero = some z)
    (hsize : i.size = 1) (hby : i.bytes = 1) (hzs : z.cells.size = 1)
    (v : Value) (n : Nat) (xs : List Value) (hown : ownsU w base e v n xs)
    (a : Addr) (m c : Nat) (news : List Value) (hl : news.length = m) (hnews : ∀ j u, news[j]? = some u -> w.cell? (a.add j) = some u) (h1 : ∀ u ∈ news, u.oneCell' = true)
    (h63 : n + m <= 1000000) (hbase : base <= w.heap.size) :
    ∃ v' w', (Builtin.append_ #[t, t] ty #[v, .slice (some a) m c]).run P w = .ok v' w' /\ ownsU w' base e v' (n + m) (xs ++ news) /\ w.grownBy w' v.ownBlock := by
 have hown' := hown
 obtain ⟨hxl, g, cap, cur, fr, rfl, hb, hgg, hfr, hnc, hcm, hsz, htk⟩ := hown
 have hlen : (xs ++ news).length = n + m := by rw [List.length_append, hxl, hl]
 by_cases hroom : n + m <= cap
 · have hr := run_append_roomU (P := P) w t ty e i ht hi hsize g n cap cur fr hgg hfr a m c news hl hnews h1 hroom (by omega)
   refine ⟨_, _, hr, ⟨hlen, g, cap, _, fr, rfl, hb, setRow_heap w g cur _ e fr hgg, ?_, hroom, hcm, ?_, ?_⟩, ⟨rfl, rfl, rfl, by simp, fun k _ hk => setRow_other w g k _ (fun e => hk (by simp [Value.ownBlock, e]))⟩⟩
   · rcases hfr with h | h
     · left
       simp only [List.size_toArray, List.length_append, List.length_take, List.length_drop, Array.length_toList]
       omega
     · exact .inr h
   · simp only [List.size_toArray, List.length_append, List.length_take, List.length_drop, Array.length_toList]
     omega
   · rw [htk, <- hlen]
     exact List.take_left
 · have holds : ∀ j u, xs[j]? = some u -> w.cell? ((⟨g, 0, none⟩ : Addr).add j) = some u := fun j u hu => by
     obtain ⟨g', cap', hv, _, _, hc⟩ := hown'.cells
     cases hv
     have hadd : (⟨g, 0, none⟩ : Addr).add j = ⟨g, j, none⟩ := by unfold Addr.add; split <;> simp_all
     rw [hadd]; exact hc j u hu
   have hge := grownCap_ge w (n + m) cap e
   have hr := run_append_grow (P := P) w t ty e i z ht hi hz ⟨g, 0, none⟩ n cap xs (by rw [hxl, hsize, Nat.mul_one]) holds a m c news (by rw [hl, hsize, Nat.mul_one]) hnews (by omega) (by omega) (growslice_fits (by omega) (by rw [hby]; omega))
   have hgr : ∀ o : Obj, w.grownBy (w.drew.alloc o) (Value.ownBlock (.slice (some ⟨g, 0, none⟩) n cap)) := fun o => ⟨rfl, rfl, rfl, by simp, fun k hk _ => Below.heap_alloc w.drew o k hk⟩
   refine ⟨_, _, hr, ⟨hlen, w.heap.size, grownCap w (n + m) cap e, _, (0, 0), rfl, hbase, heap_alloc_new w.drew _, .inr rfl, hge, grownCap_le_maxLen w _ _ e (by simp only [maxLen]; omega), ?_, ?_⟩, hgr _⟩
   · simp only [Array.size_append, List.size_toArray, size_zeroCells, hzs, hxl, hl]
     omega
   · simp only [Array.toList_append, List.append_assoc]
     rw [<- List.append_assoc, <- hlen]
     exact List.take_left
end
theorem zal {P : Program} {w0 : World} {ops : Array Oper} {rest : List Oper} {o : Oper} {a : Act} {Q : Exit -> Act -> World -> Prop} (hgd : o.guard = none) (s x : Operand) (t : TypeId)
    (ho : o.op = .call { callee := .builtin .append, args := #[s, x], argTypes := #[t, t] }) (base : Nat) (e e0 : TypeId) (i : TypeInfo) (ht : P.underlying t = some (.slice e)) (hi : P.info? e = some i) (hz : i.zero = some (.int .u8 0)) (hsize : i.size = 1) (hby : i.bytes = 1)
    (v : Value) (n : Nat) (xs : List Value) (hs : a.eval s = v) (hown : ownsU w0 base e v n xs) (y : Int) (hx : a.eval x = .slice (some ⟨w0.heap.size, 0, none⟩) 1 1) (hn : n <= 100000) (hbase : base <= w0.heap.size)
    (h : ∀ v' w', ownsU w' base e v' (n + 1) (xs ++ [.int .u8 y]) -> w0.grownBy w' v.ownBlock -> wpList P ops Q rest (a.put o.dst v') w') : wpList P ops Q (o :: rest) a (w0.alloc (.cells #[.int .u8 y] e0)) := by
 refine wpList_plain hgd fun K hK => ?_
 have hown1 : ownsU (w0.alloc (.cells #[.int .u8 y] e0)) base e v n xs := hown.kept (World.grownBy_alloc w0 _ none)
 obtain ⟨v', w', hr, h2, h3⟩ := run_append_U (P := P) _ base t o.type e i (.int .u8 0) ht hi hz hsize hby rfl v n xs hown1 ⟨w0.heap.size, 0, none⟩ 1 1 [.int .u8 y] rfl (fun j u hu => by
  have : j = 0 := by
   have := (List.getElem?_eq_some_iff.1 hu).1
   simp at this
   omega
  subst this
  have h1 := (Blk.new w0 e0 #[.int .u8 y]).cell 0
  rw [show (⟨w0.heap.size, 0, none⟩ : Addr).add 0 = ⟨w0.heap.size, 0, none⟩ by simp [Addr.add], h1]
  simpa using hu) (by simp [Value.oneCell']) (by omega) (by rw [World.size_alloc]; omega)
 unfold Oper.wp execOp
 simp only [ho, resolve, invoke, builtin, Sem.run_bind, Sem.run_pure, Result.andThen_ok, List.map_toArray, List.map_cons, List.map_nil, hs, hx, hr]
 exact hK _ _ (h v' w' h2 (za (World.grownBy_alloc w0 _ _) h3))
end
section
theorem vr {P : Program} {f : FuncId} {args : Array Value} {w : World} {v : Value} (h : Calls P f args w fun e w' => e = .returned v /\ w = w') : Calls P f args w fun e w' => e = .returned v /\ w' = w :=
 h.mono fun _ _ ⟨h1, h2⟩ => ⟨h1, h2.symm⟩
structure At where
 t : Nat
 h : Nat
 c : Nat
 g : Nat
structure At.ok (a : At) (w0 : World) : Prop where
 th : a.t ≠ a.h
 tc : a.t ≠ a.c
 hc : a.h ≠ a.c
 gt : a.g ≠ a.t
 gh : a.g ≠ a.h
 gc : a.g ≠ a.c
 lt : w0.heap.size <= a.t
 lh : w0.heap.size <= a.h
 lc : w0.heap.size <= a.c
structure RS (w0 wr : World) (a : At) (L tb ws ks : List Int) : Prop where
 grown : w0.grownBy wr none
 t : Blk wr a.t 148 (arrV .u32 tb)
 h : Blk wr a.h 149 (arrV .u32 ws)
 c : Blk wr a.c 148 (arrV .u32 ks)
 b : ∀ j, j < L.length -> wr.cell? ⟨a.g, j, none⟩ = some (.int .u8 (L.getD j 0))
section
variable {w0 wr : World} {a : At} {L tb ws ks : List Int}
theorem RS.drew (h : RS w0 wr a L tb ws ks) : RS w0 wr.drew a L tb ws ks := ⟨zh h.grown, h.t.drew, h.h.drew, h.c.drew, h.b⟩
theorem RS.drewN (h : RS w0 wr a L tb ws ks) (n : Nat) : RS w0 (wr.drewN n) a L tb ws ks := ⟨⟨h.grown.os, h.grown.tape, h.grown.output, h.grown.size, h.grown.block⟩, h.t, h.h, h.c, h.b⟩
theorem RS.alloc (h : RS w0 wr a L tb ws ks) (o : Obj) : RS w0 (wr.alloc o) a L tb ws ks :=
 ⟨za h.grown (gQ), h.t.alloc o, h.h.alloc o, h.c.alloc o, fun j hj => (World.grownBy_alloc wr o none).cell (h.b j hj) (by simp)⟩
theorem RS.glt (h : RS w0 wr a L tb ws ks) (hL : 0 < L.length) : a.g < wr.heap.size := by
 have := World.block_lt_of_cell? wr _ (h.b 0 hL)
 exact this
theorem RS.setT (h : RS w0 wr a L tb ws ks) (ok : a.ok w0) (i : Nat) (x : Int) : RS w0 (wr.setCell ⟨a.t, i, none⟩ (.int .u32 x)) a L (tb.set i x) ws ks :=
 ⟨ye h.grown (p := ⟨a.t, i, none⟩) (.inl ok.lt) _, by have := h.t.set i (.int .u32 x); rwa [zcb] at this, h.h.far (p := ⟨a.t, i, none⟩) (by have := ok.th; dsimp only; omega) _, h.c.far (p := ⟨a.t, i, none⟩) (by have := ok.tc; dsimp only; omega) _,
  fun j hj => (World.cell?_setCell_other _ _ _ _ (by have := ok.gt; simp; try omega)).trans (h.b j hj)⟩
theorem RS.setH (h : RS w0 wr a L tb ws ks) (ok : a.ok w0) (i : Nat) (x : Int) : RS w0 (wr.setCell ⟨a.h, i, none⟩ (.int .u32 x)) a L tb (ws.set i x) ks :=
 ⟨ye h.grown (p := ⟨a.h, i, none⟩) (.inl ok.lh) _, h.t.far (p := ⟨a.h, i, none⟩) (by have := ok.th; dsimp only; omega) _, by have := h.h.set i (.int .u32 x); rwa [zcb] at this, h.c.far (p := ⟨a.h, i, none⟩) (by have := ok.hc; dsimp only; omega) _,
  fun j hj => (World.cell?_setCell_other _ _ _ _ (by have := ok.gh; simp; try omega)).trans (h.b j hj)⟩
theorem RS.setC (h : RS w0 wr a L tb ws ks) (ok : a.ok w0) (i : Nat) (x : Int) : RS w0 (wr.setCell ⟨a.c, i, none⟩ (.int .u32 x)) a L tb ws (ks.set i x) :=
 ⟨ye h.grown (p := ⟨a.c, i, none⟩) (.inl ok.lc) _, h.t.far (p := ⟨a.c, i, none⟩) (by have := ok.tc; dsimp only; omega) _, h.h.far (p := ⟨a.c, i, none⟩) (by have := ok.hc; dsimp only; omega) _, by have := h.c.set i (.int .u32 x); rwa [zcb] at this,
  fun j hj => (World.cell?_setCell_other _ _ _ _ (by have := ok.gc; simp; try omega)).trans (h.b j hj)⟩
theorem RS.row (h : RS w0 wr a L tb ws ks) (V : Nat) (hV : w0.heap.size <= V) (h1 : a.t ≠ V) (h2 : a.h ≠ V) (h3 : a.c ≠ V) (h4 : a.g ≠ V) (cs : Array Value) : RS w0 (wr.setRow V cs) a L tb ws ks :=
 ⟨zc h.grown (.inl hV) cs, h.t.farRow h1 cs, h.h.farRow h2 cs, h.c.farRow h3 cs, fun j hj => (World.cell?_of_block (w := wr) (setRow_other wr V a.g cs h4)).trans (h.b j hj)⟩
theorem RS.cellT (h : RS w0 wr a L tb ws ks) (hl : tb.length = 64) (i : Nat) (hi : i < 64) : wr.cell? ⟨a.t, i, none⟩ = some (.int .u32 (tb.getD i 0)) := by
 rw [h.t.cell]; exact yr (by omega)
theorem RS.cellH (h : RS w0 wr a L tb ws ks) (hl : ws.length = 8) (i : Nat) (hi : i < 8) : wr.cell? ⟨a.h, i, none⟩ = some (.int .u32 (ws.getD i 0)) := by
 rw [h.h.cell]; exact yr (by omega)
theorem RS.cellC (h : RS w0 wr a L tb ws ks) (hl : ks.length = 64) (i : Nat) (hi : i < 64) : wr.cell? ⟨a.c, i, none⟩ = some (.int .u32 (ks.getD i 0)) := by
 rw [h.c.cell]; exact yr (by omega)
end
theorem mix_set (W tb : List Int) (k : Nat) (x : Int) (hW : W.length = k) (ht : k < tb.length) : (W ++ tb.drop k).set k x = (W ++ [x]) ++ tb.drop (k + 1) := by
 rw [List.set_append_right _ _ (by omega), hW, Nat.sub_self, List.drop_eq_getElem_cons ht, List.set_cons_zero]
 simp
theorem k_set (k : Nat) (hk : k < 64) : (kS.take k ++ List.replicate (64 - k) 0).set k (kS.getD k 0) = kS.take (k + 1) ++ List.replicate (64 - (k + 1)) 0 := by
 have hl : (kS.take k).length = k := by rw [List.length_take, uw]; omega
 obtain ⟨m, hm⟩ : ∃ m, 64 - k = m + 1 := ⟨64 - k - 1, by omega⟩
 rw [List.set_append_right _ _ (by omega), hl, Nat.sub_self, hm, show 64 - (k + 1) = m by omega, List.replicate_succ, List.set_cons_zero, List.take_add_one, List.getD, List.getElem?_eq_getElem (by rw [uw]; exact hk)]
 simp only [Option.getD_some, Option.toList_some, List.append_assoc, List.singleton_append]
def blkOf (L : List Int) (o : Nat) : List Int := (L.drop o).take 64
theorem blk_get (L : List Int) (o j : Nat) (h : j < 64) : (blkOf L o).getD j 0 = L.getD (o + j) 0 := by
 simp [blkOf, List.getD, h]
theorem blk_range (L : List Int) (o j : Nat) (hL : ∀ z ∈ L, 0 <= z /\ z < 256) : 0 <= L.getD (o + j) 0 /\ L.getD (o + j) 0 < 256 := by
 by_cases h : o + j < L.length
 · rw [List.getD, List.getElem?_eq_getElem h, Option.getD_some]; exact hL _ (List.getElem_mem h)
 · rw [List.getD, List.getElem?_eq_none (by omega)]; simp
theorem of_l (ws : List Int) (h : ws.length = 8) : (V8.of ws).l = ws := by
 match ws, h with
 | [a, b, c, d, e, f, g, h], _ => rfl
theorem v_cell {w : World} {V : Nat} {v : V8} {t : TypeId} (h : Blk w V t (arrV .u32 v.l)) : w.cell? ⟨V, 0, none⟩ = some (.int .u32 v.a) /\ w.cell? ⟨V, 1, none⟩ = some (.int .u32 v.b) /\ w.cell? ⟨V, 2, none⟩ = some (.int .u32 v.c) /\ w.cell? ⟨V, 3, none⟩ = some (.int .u32 v.d) /\
    w.cell? ⟨V, 4, none⟩ = some (.int .u32 v.e) /\ w.cell? ⟨V, 5, none⟩ = some (.int .u32 v.f) /\ w.cell? ⟨V, 6, none⟩ = some (.int .u32 v.g) /\ w.cell? ⟨V, 7, none⟩ = some (.int .u32 v.h) :=
 ⟨by rw [h.cell]; rfl, by rw [h.cell]; rfl, by rw [h.cell]; rfl, by rw [h.cell]; rfl, by rw [h.cell]; rfl, by rw [h.cell]; rfl, by rw [h.cell]; rfl, by rw [h.cell]; rfl⟩
theorem za0 (L : List Int) : ∀ k, (za1 startS.ws L k).length = 8
 | 0 => rfl
 | k + 1 => by rw [za1, mixS, zbk, za0 L k]
theorem one_eq (v : V8) (xc xt : Int) : ((v.h + bits BinOp.xor IntKind.u32 (bits BinOp.xor IntKind.u32 (rr 67108864 64 v.e) (rr 2097152 2048 v.e)) (rr 128 33554432 v.e) + bits BinOp.xor IntKind.u32 (bits BinOp.and IntKind.u32 v.e v.f) (bits BinOp.and IntKind.u32 (bits BinOp.xor IntKind.u32 IntKind.u32.max v.e) v.g) + xc) % 4294967296 + xt) % 4294967296 = oneS v xc xt := by
 rw [Int.emod_add_emod]; rfl
theorem two_eq (v : V8) : (bits BinOp.xor IntKind.u32 (bits BinOp.xor IntKind.u32 (rr 1073741824 4 v.a) (rr 524288 8192 v.a)) (rr 1024 4194304 v.a) + bits BinOp.xor IntKind.u32 (bits BinOp.xor IntKind.u32 (bits BinOp.and IntKind.u32 v.a v.b) (bits BinOp.and IntKind.u32 v.a v.c)) (bits BinOp.and IntKind.u32 v.b v.c)) % 4294967296 = twoS v := by
 rfl
theorem round_l (v : V8) (xc xt O T : Int) (hO : O = oneS v xc xt) (hT : T = twoS v) : (roundS v xc xt).l = [(O + T) % 4294967296, v.a, v.b, v.c, (v.d + O) % 4294967296, v.e, v.f, v.g] := by rw [hO, hT]; rfl
theorem build8 (w : World) (x0 x1 x2 x3 x4 x5 x6 x7 : Int) : Sem.run Tryz.prog (Instr.build 149 #[(0, .int .u32 x0), (1, .int .u32 x1), (2, .int .u32 x2), (3, .int .u32 x3), (4, .int .u32 x4), (5, .int .u32 x5), (6, .int .u32 x6), (7, .int .u32 x7)]) w = .ok (.agg (arrV .u32 [x0, x1, x2, x3, x4, x5, x6, x7])) w := by
 kernel_rfl
theorem wpList_build_ps {w : World} {ops : Array Oper} {rest : List Oper} {o : Oper} {a : Act} {Q : Exit -> Act -> World -> Prop} (hgd : o.guard = none) (t : TypeId) (parts : Array (Nat × Operand)) (ho : o.op = .build t parts) (ps : Array (Nat × Value)) (hp : (parts.map fun (i, x) => (i, a.eval x)) = ps) (V : Value)
    (hr : Sem.run Tryz.prog (Instr.build t ps) w = .ok V w) (h : wpList Tryz.prog ops Q rest (a.put o.dst V) w) : wpList Tryz.prog ops Q (o :: rest) a w :=
 yi hgd t parts ho V (by rw [hp]; exact hr) h
theorem size8 (ws : List Int) (h : ws.length = 8) : (Tryz.prog.info? 149).map (·.size) = some (arrV .u32 ws).size := by
 rw [zf, h]; kernel_rfl
def byteS (ws : List Int) (i : Nat) : Int := ws.getD (i / 4) 0 / 2 ^ (24 - 8 * (i % 4)) % 256
def outS (ws : List Int) : Nat -> List Int
 | 0 => List.replicate 32 0
 | i + 1 => (outS ws i).set i (byteS ws i)
theorem zb4 (ws : List Int) : ∀ k, (outS ws k).length = 32
 | 0 => rfl
 | k + 1 => by rw [outS, List.length_set, zb4 ws k]
theorem out_sum (ws : List Int) (h : ws.length = 8) : outS ws 32 = ur ws 8 := by
 match ws, h with
 | [a, b, c, d, e, f, g, h], _ => simp [outS, byteS, ur, over, wordB, List.replicate]
end
section
theorem u8i : (Tryz.prog.info? 5).map (fun i => (i.zero, i.size, i.bytes)) = some (some (.int .u8 0), 1, 1) := by kernel_rfl
theorem zrun {P : Program} {t : TypeId} {v : Value} (w : World) (h : (P.info? t).bind (·.zero) = some v) : Sem.run P (zeroValue t) w = .ok v w := by
 cases hq : P.info? t with
 | none => simp [hq] at h
 | some i =>
  have h1 : i.zero = some v := by simpa [hq] using h
  simp [zeroValue, typeInfo, hq, h1]
def xsOf (s : ByteArray) : List Int := s.data.toList.map fun b => ((b.toNat : Nat) : Int)
theorem z4 (s : ByteArray) : (xsOf s).length = s.size := by simp [xsOf]
theorem xsOf_range (s : ByteArray) : ∀ z ∈ xsOf s, 0 <= z /\ z < 256 := fun z hz => by
 simp only [xsOf, List.mem_map] at hz
 obtain ⟨b, _, rfl⟩ := hz
 have := b.toNat_lt
 omega
def lenV : Value -> Nat
 | .slice _ n _ => n
 | _ => 0
theorem zcz {a b c : World} {v : Value} {base : Nat} {e : TypeId} {n : Nat} {xs : List Value} (h : a.grownBy b none) (k : b.grownBy c v.ownBlock) (hv : ownsU b base e v n xs) (hB : a.heap.size <= base) : a.grownBy c none := by
 cases hg : v.ownBlock with
 | none => rw [hg] at k; exact za h k
 | some g => rw [hg] at k; exact z8 h k (Nat.le_trans hB (hv.lt g hg).1)
def zerosN (n : Nat) : Nat := if 56 < (n + 1) % 64 then 120 - (n + 1) % 64 else 56 - (n + 1) % 64
theorem zerosN_at (n k : Nat) (h : k <= zerosN n) : ((n + 1 + k) % 64 = 56) ↔ k = zerosN n := by
 unfold zerosN at *
 split at h <;> rename_i h1 <;> simp only [h1, if_true, if_false] <;> omega
theorem rep_snoc (k : Nat) : List.replicate (k + 1) (0 : Int) = List.replicate k 0 ++ [0] := by
 rw [List.replicate_succ']
theorem zb9 (N : Nat) : (endB N).length = 8 := rfl
theorem endB_byte (N : Nat) (k : Nat) (SH : Int) (hk : k < 8) (h : SH = 56 - 8 * (k : Int)) : (N : Int) / 2 ^ SH.toNat % 256 = (endB N).getD k 0 := by
 have hc : k = 0 \/ k = 1 \/ k = 2 \/ k = 3 \/ k = 4 \/ k = 5 \/ k = 6 \/ k = 7 := by omega
 subst h
 rcases hc with rfl | rfl | rfl | rfl | rfl | rfl | rfl | rfl <;> simp [endB, wordB] <;> omega
theorem take_get (l : List Int) (k : Nat) (h : k < l.length) : l.take (k + 1) = l.take k ++ [l.getD k 0] := by
 rw [List.take_add_one, List.getD, List.getElem?_eq_getElem h]; rfl
end
end Go.Proofs.YtigafnbofmiknaaGreatDoor
