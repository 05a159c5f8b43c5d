/-
  Several texts in one: RfT, RfU.
-/
import Derived.StillTailTactics
import Derived.Test.YtpdfkgmgmndcfaaGreatDoorM20i
import Derived.Test.YtpdfkgmgmndcfaaGreatDoorM20j
import Derived.Great.BuildSlice
/-
  The state of quorateref02.Sum: its blocks.
-/
namespace Go.Proofs.YtpdfkgmgmndcfaaGreatDoor
open Go.RowKit

theorem calls_flip {P : Program} {f : FuncId} {args : Array Value} {w : World} {v : Value} (h : Calls P f args w fun e w' => e = .returned v ∧ w = w') : Calls P f args w fun e w' => e = .returned v ∧ w' = w :=
  h.mono fun _ _ ⟨h1, h2⟩ => ⟨h1, h2.symm⟩
/-- Where the table, the words, the constants and the bytes lie. -/
structure At where
  t : Nat
  h : Nat
  c : Nat
  g : Nat
structure At.ok (a : At) (w0 : World) : Prop where
  th : a.t ≠ a.h
  tc : a.t ≠ a.c
  hc : a.h ≠ a.c
  gt : a.g ≠ a.t
  gh : a.g ≠ a.h
  gc : a.g ≠ a.c
  lt : w0.heap.size ≤ a.t
  lh : w0.heap.size ≤ a.h
  lc : w0.heap.size ≤ a.c
structure RS (w0 wr : World) (a : At) (L tb ws ks : List Int) : Prop where
  grown : w0.grownBy wr none
  t : Blk wr a.t 109 (arrV .u32 tb)
  h : Blk wr a.h 110 (arrV .u32 ws)
  c : Blk wr a.c 109 (arrV .u32 ks)
  b : ∀ j, j < L.length → wr.cell? ⟨a.g, j, none⟩ = some (.int .u8 (L.getD j 0))
section
variable {w0 wr : World} {a : At} {L tb ws ks : List Int}
theorem RS.drew (h : RS w0 wr a L tb ws ks) : RS w0 wr.drew a L tb ws ks := ⟨grown_drew h.grown, h.t.drew, h.h.drew, h.c.drew, h.b⟩
theorem RS.drewN (h : RS w0 wr a L tb ws ks) (n : Nat) : RS w0 (wr.drewN n) a L tb ws ks := ⟨⟨h.grown.os, h.grown.tape, h.grown.output, h.grown.size, h.grown.block⟩, h.t, h.h, h.c, h.b⟩
theorem RS.alloc (h : RS w0 wr a L tb ws ks) (o : Obj) : RS w0 (wr.alloc o) a L tb ws ks :=
  ⟨grown_trans h.grown (World.grownBy_alloc _ _ none), h.t.alloc o, h.h.alloc o, h.c.alloc o, fun j hj => (World.grownBy_alloc wr o none).cell (h.b j hj) (by simp)⟩
theorem RS.glt (h : RS w0 wr a L tb ws ks) (hL : 0 < L.length) : a.g < wr.heap.size := by
  have := World.block_lt_of_cell? wr _ (h.b 0 hL)
  exact this
theorem RS.setT (h : RS w0 wr a L tb ws ks) (ok : a.ok w0) (i : Nat) (x : Int) : RS w0 (wr.setCell ⟨a.t, i, none⟩ (.int .u32 x)) a L (tb.set i x) ws ks :=
  ⟨grown_far h.grown (p := ⟨a.t, i, none⟩) (.inl ok.lt) _, by have := h.t.set i (.int .u32 x); rwa [arr_set] at this, h.h.far (p := ⟨a.t, i, none⟩) (by have := ok.th; dsimp only; omega) _, h.c.far (p := ⟨a.t, i, none⟩) (by have := ok.tc; dsimp only; omega) _,
   fun j hj => (World.cell?_setCell_other _ _ _ _ (by have := ok.gt; simp; try omega)).trans (h.b j hj)⟩
theorem RS.setH (h : RS w0 wr a L tb ws ks) (ok : a.ok w0) (i : Nat) (x : Int) : RS w0 (wr.setCell ⟨a.h, i, none⟩ (.int .u32 x)) a L tb (ws.set i x) ks :=
  ⟨grown_far h.grown (p := ⟨a.h, i, none⟩) (.inl ok.lh) _, h.t.far (p := ⟨a.h, i, none⟩) (by have := ok.th; dsimp only; omega) _, by have := h.h.set i (.int .u32 x); rwa [arr_set] at this, h.c.far (p := ⟨a.h, i, none⟩) (by have := ok.hc; dsimp only; omega) _,
   fun j hj => (World.cell?_setCell_other _ _ _ _ (by have := ok.gh; simp; try omega)).trans (h.b j hj)⟩
theorem RS.setC (h : RS w0 wr a L tb ws ks) (ok : a.ok w0) (i : Nat) (x : Int) : RS w0 (wr.setCell ⟨a.c, i, none⟩ (.int .u32 x)) a L tb ws (ks.set i x) :=
  ⟨grown_far h.grown (p := ⟨a.c, i, none⟩) (.inl ok.lc) _, h.t.far (p := ⟨a.c, i, none⟩) (by have := ok.tc; dsimp only; omega) _, h.h.far (p := ⟨a.c, i, none⟩) (by have := ok.hc; dsimp only; omega) _, by have := h.c.set i (.int .u32 x); rwa [arr_set] at this,
   fun j hj => (World.cell?_setCell_other _ _ _ _ (by have := ok.gc; simp; try omega)).trans (h.b j hj)⟩
theorem RS.row (h : RS w0 wr a L tb ws ks) (V : Nat) (hV : w0.heap.size ≤ V) (h1 : a.t ≠ V) (h2 : a.h ≠ V) (h3 : a.c ≠ V) (h4 : a.g ≠ V) (cs : Array Value) : RS w0 (wr.setRow V cs) a L tb ws ks :=
  ⟨grown_row h.grown (.inl hV) cs, h.t.farRow h1 cs, h.h.farRow h2 cs, h.c.farRow h3 cs, fun j hj => (World.cell?_of_block (w := wr) (setRow_other wr V a.g cs h4)).trans (h.b j hj)⟩
theorem RS.cellT (h : RS w0 wr a L tb ws ks) (hl : tb.length = 64) (i : Nat) (hi : i < 64) : wr.cell? ⟨a.t, i, none⟩ = some (.int .u32 (tb.getD i 0)) := by
  rw [h.t.cell]; exact arr_get (by omega)
theorem RS.cellH (h : RS w0 wr a L tb ws ks) (hl : ws.length = 8) (i : Nat) (hi : i < 8) : wr.cell? ⟨a.h, i, none⟩ = some (.int .u32 (ws.getD i 0)) := by
  rw [h.h.cell]; exact arr_get (by omega)
theorem RS.cellC (h : RS w0 wr a L tb ws ks) (hl : ks.length = 64) (i : Nat) (hi : i < 64) : wr.cell? ⟨a.c, i, none⟩ = some (.int .u32 (ks.getD i 0)) := by
  rw [h.c.cell]; exact arr_get (by omega)
end
theorem mix_set (W tb : List Int) (k : Nat) (x : Int) (hW : W.length = k) (ht : k < tb.length) : (W ++ tb.drop k).set k x = (W ++ [x]) ++ tb.drop (k + 1) := by
  rw [List.set_append_right _ _ (by omega), hW, Nat.sub_self, List.drop_eq_getElem_cons ht, List.set_cons_zero]
  simp
theorem k_set (k : Nat) (hk : k < 64) : (kS.take k ++ List.replicate (64 - k) 0).set k (kS.getD k 0) = kS.take (k + 1) ++ List.replicate (64 - (k + 1)) 0 := by
  have hl : (kS.take k).length = k := by rw [List.length_take, kS_length]; omega
  obtain ⟨m, hm⟩ : ∃ m, 64 - k = m + 1 := ⟨64 - k - 1, by omega⟩
  rw [List.set_append_right _ _ (by omega), hl, Nat.sub_self, hm, show 64 - (k + 1) = m by omega, List.replicate_succ, List.set_cons_zero, List.take_add_one, List.getD, List.getElem?_eq_getElem (by rw [kS_length]; exact hk)]
  simp only [Option.getD_some, Option.toList_some, List.append_assoc, List.singleton_append]
def blkOf (L : List Int) (o : Nat) : List Int := (L.drop o).take 64
theorem blk_length (L : List Int) (o : Nat) (h : o + 64 ≤ L.length) : (blkOf L o).length = 64 := by rw [blkOf, List.length_take, List.length_drop]; omega
theorem blk_get (L : List Int) (o j : Nat) (h : j < 64) : (blkOf L o).getD j 0 = L.getD (o + j) 0 := by
  simp [blkOf, List.getD, h]
theorem blk_range (L : List Int) (o j : Nat) (hL : ∀ z ∈ L, 0 ≤ z ∧ z < 256) : 0 ≤ L.getD (o + j) 0 ∧ L.getD (o + j) 0 < 256 := by
  by_cases h : o + j < L.length
  · rw [List.getD, List.getElem?_eq_getElem h, Option.getD_some]; exact hL _ (List.getElem_mem h)
  · rw [List.getD, List.getElem?_eq_none (by omega)]; simp
theorem of_l (ws : List Int) (h : ws.length = 8) : (V8.of ws).l = ws := by
  match ws, h with
  | [a, b, c, d, e, f, g, h], _ => rfl
theorem v_cell {w : World} {V : Nat} {v : V8} {t : TypeId} (h : Blk w V t (arrV .u32 v.l)) : w.cell? ⟨V, 0, none⟩ = some (.int .u32 v.a) ∧ w.cell? ⟨V, 1, none⟩ = some (.int .u32 v.b) ∧ w.cell? ⟨V, 2, none⟩ = some (.int .u32 v.c) ∧ w.cell? ⟨V, 3, none⟩ = some (.int .u32 v.d) ∧
    w.cell? ⟨V, 4, none⟩ = some (.int .u32 v.e) ∧ w.cell? ⟨V, 5, none⟩ = some (.int .u32 v.f) ∧ w.cell? ⟨V, 6, none⟩ = some (.int .u32 v.g) ∧ w.cell? ⟨V, 7, none⟩ = some (.int .u32 v.h) :=
  ⟨by rw [h.cell]; rfl, by rw [h.cell]; rfl, by rw [h.cell]; rfl, by rw [h.cell]; rfl, by rw [h.cell]; rfl, by rw [h.cell]; rfl, by rw [h.cell]; rfl, by rw [h.cell]; rfl⟩
theorem v_all (v : V8) : ((arrV .u32 v.l).all fun x => x.oneCell') = true := by simp [Value.oneCell']
theorem blocksS_length (L : List Int) : ∀ k, (blocksS startS.ws L k).length = 8
  | 0 => rfl
  | k + 1 => by rw [blocksS, mixS, addS_length, blocksS_length L k]
theorem one_eq (v : V8) (xc xt : Int) : ((v.h + bits BinOp.xor IntKind.u32 (bits BinOp.xor IntKind.u32 (rr 67108864 64 v.e) (rr 2097152 2048 v.e)) (rr 128 33554432 v.e) + bits BinOp.xor IntKind.u32 (bits BinOp.and IntKind.u32 v.e v.f) (bits BinOp.and IntKind.u32 (bits BinOp.xor IntKind.u32 IntKind.u32.max v.e) v.g) + xc) % 4294967296 + xt) % 4294967296 = oneS v xc xt := by
  rw [Int.emod_add_emod]; rfl
theorem two_eq (v : V8) : (bits BinOp.xor IntKind.u32 (bits BinOp.xor IntKind.u32 (rr 1073741824 4 v.a) (rr 524288 8192 v.a)) (rr 1024 4194304 v.a) + bits BinOp.xor IntKind.u32 (bits BinOp.xor IntKind.u32 (bits BinOp.and IntKind.u32 v.a v.b) (bits BinOp.and IntKind.u32 v.a v.c)) (bits BinOp.and IntKind.u32 v.b v.c)) % 4294967296 = twoS v := by
  rfl
theorem round_l (v : V8) (xc xt O T : Int) (hO : O = oneS v xc xt) (hT : T = twoS v) : (roundS v xc xt).l = [(O + T) % 4294967296, v.a, v.b, v.c, (v.d + O) % 4294967296, v.e, v.f, v.g] := by rw [hO, hT]; rfl
theorem build8 (w : World) (x0 x1 x2 x3 x4 x5 x6 x7 : Int) : Sem.run Tryz.prog (Instr.build 110 #[(0, .int .u32 x0), (1, .int .u32 x1), (2, .int .u32 x2), (3, .int .u32 x3), (4, .int .u32 x4), (5, .int .u32 x5), (6, .int .u32 x6), (7, .int .u32 x7)]) w = .ok (.agg (arrV .u32 [x0, x1, x2, x3, x4, x5, x6, x7])) w := by
  kernel_rfl
theorem wpList_build_ps {w : World} {ops : Array Oper} {rest : List Oper} {o : Oper} {a : Act} {Q : Exit → Act → World → Prop} (hgd : o.guard = none) (t : TypeId) (parts : Array (Nat × Operand)) (ho : o.op = .build t parts) (ps : Array (Nat × Value)) (hp : (parts.map fun (i, x) => (i, a.eval x)) = ps) (V : Value)
    (hr : Sem.run Tryz.prog (Instr.build t ps) w = .ok V w) (h : wpList Tryz.prog ops Q rest (a.put o.dst V) w) : wpList Tryz.prog ops Q (o :: rest) a w :=
  wpList_build_run hgd t parts ho V (by rw [hp]; exact hr) h
theorem size8 (ws : List Int) (h : ws.length = 8) : (Tryz.prog.info? 110).map (·.size) = some (arrV .u32 ws).size := by
  rw [arr_size, h]; kernel_rfl
/-- The bytes of the sum, one by one. -/
def byteS (ws : List Int) (i : Nat) : Int := ws.getD (i / 4) 0 / 2 ^ (24 - 8 * (i % 4)) % 256
def outS (ws : List Int) : Nat → List Int
  | 0 => List.replicate 32 0
  | i + 1 => (outS ws i).set i (byteS ws i)
theorem outS_length (ws : List Int) : ∀ k, (outS ws k).length = 32
  | 0 => rfl
  | k + 1 => by rw [outS, List.length_set, outS_length ws k]
theorem out_sum (ws : List Int) (h : ws.length = 8) : outS ws 32 = sumWK20 ws 8 := by
  match ws, h with
  | [a, b, c, d, e, f, g, h], _ => simp [outS, byteS, sumWK20, over, wordB, List.replicate]
end Go.Proofs.YtpdfkgmgmndcfaaGreatDoor
/-
  Strings as numbers; what quorateref02.Sum wants to know of its padding.
-/
namespace Go.Proofs.YtpdfkgmgmndcfaaGreatDoor
open Go.RowKit

theorem u8i : (Tryz.prog.info? 5).map (fun i => (i.zero, i.size, i.bytes)) = some (some (.int .u8 0), 1, 1) := by kernel_rfl
theorem zrun {P : Program} {t : TypeId} {v : Value} (w : World) (h : (P.info? t).bind (·.zero) = some v) : Sem.run P (zeroValue t) w = .ok v w := by
  cases hq : P.info? t with
  | none => simp [hq] at h
  | some i =>
    have h1 : i.zero = some v := by simpa [hq] using h
    simp [zeroValue, typeInfo, hq, h1]
def xsOf (s : ByteArray) : List Int := s.data.toList.map fun b => ((b.toNat : Nat) : Int)
theorem xsOf_length (s : ByteArray) : (xsOf s).length = s.size := by simp [xsOf]
theorem xsOf_range (s : ByteArray) : ∀ z ∈ xsOf s, 0 ≤ z ∧ z < 256 := fun z hz => by
  simp only [xsOf, List.mem_map] at hz
  obtain ⟨b, _, rfl⟩ := hz
  have := b.toNat_lt
  omega
def lenV : Value → Nat
  | .slice _ n _ => n
  | _ => 0
theorem grown_ownU {a b c : World} {v : Value} {base : Nat} {e : TypeId} {n : Nat} {xs : List Value} (h : a.grownBy b none) (k : b.grownBy c v.ownBlock) (hv : ownsU b base e v n xs) (hB : a.heap.size ≤ base) : a.grownBy c none := by
  cases hg : v.ownBlock with
  | none => rw [hg] at k; exact grown_trans h k
  | some g => rw [hg] at k; exact grown_fresh h k (Nat.le_trans hB (hv.lt g hg).1)
def zerosN (n : Nat) : Nat := if 56 < (n + 1) % 64 then 120 - (n + 1) % 64 else 56 - (n + 1) % 64
theorem zerosN_at (n k : Nat) (h : k ≤ zerosN n) : ((n + 1 + k) % 64 = 56) ↔ k = zerosN n := by
  unfold zerosN at *
  split at h <;> rename_i h1 <;> simp only [h1, if_true, if_false] <;> omega
theorem rep_snoc (k : Nat) : List.replicate (k + 1) (0 : Int) = List.replicate k 0 ++ [0] := by
  rw [List.replicate_succ']

theorem endB_length (N : Nat) : (endB N).length = 8 := rfl
theorem endB_byte (N : Nat) (k : Nat) (SH : Int) (hk : k < 8) (h : SH = 56 - 8 * (k : Int)) : (N : Int) / 2 ^ SH.toNat % 256 = (endB N).getD k 0 := by
  have hc : k = 0 ∨ k = 1 ∨ k = 2 ∨ k = 3 ∨ k = 4 ∨ k = 5 ∨ k = 6 ∨ k = 7 := by omega
  subst h
  rcases hc with rfl | rfl | rfl | rfl | rfl | rfl | rfl | rfl <;> simp [endB, wordB] <;> omega
theorem take_get (l : List Int) (k : Nat) (h : k < l.length) : l.take (k + 1) = l.take k ++ [l.getD k 0] := by
  rw [List.take_add_one, List.getD, List.getElem?_eq_getElem h]; rfl

end Go.Proofs.YtpdfkgmgmndcfaaGreatDoor
