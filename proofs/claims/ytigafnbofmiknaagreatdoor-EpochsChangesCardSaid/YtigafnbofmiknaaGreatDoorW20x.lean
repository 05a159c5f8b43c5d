/- Ou0, CdP, Ou, WOps, CdW -/
import Derived.Test.YtigafnbofmiknaaGreatDoorW20w
import Derived.Laws.BitsAllLaws
import Derived.Test.YtigafnbofmiknaaGreatDoorW20e
import Derived.Deep.DeepCutAuto
import Derived.Deep.RegionWith
import Derived.Deep.RegionHeld3
import Derived.Test.YtigafnbofmiknaaGreatDoorW20f
import Derived.Deep.Onto
namespace Go.Proofs.YtigafnbofmiknaaGreatDoor
set_option maxRecDepth 100000
set_option maxHeartbeats 10000000
open Go.RowKit
section
theorem bad_false_ou {m k : Nat} (h1 : 1 <= k) (h8 : k <= 8) : badNum (m : Int) (k : Int) = !decide (m / 256 ^ k = 0) := by
 unfold badNum
 rw [Int.toNat_natCast, zc7]
 have a1 : decide ((k : Int) < 1) = false := by simp; omega
 have a2 : decide ((8 : Int) < (k : Int)) = false := by simp; omega
 have a3 : decide ((m : Int) < 0) = false := by simp
 rw [a1, a2, a3]
 by_cases h : m / 256 ^ k = 0
 · rw [h]; simp
 · have : decide (m / 256 ^ k = 0) = false := by simpa using h
   rw [this]
   simp only [Bool.false_or, Bool.not_false, bne_iff_ne, ne_eq]
   omega
theorem fits_any (w : World) (n width : Int) (hmax : n <= 9223372036854775807) :
    Calls Tryz.prog 82 #[.int .i64 n, .int .i64 width] w fun e w' => e = .returned (.bool (!badNum n width)) /\ w = w' := by
 by_cases hok : 1 <= width /\ width <= 8 /\ 0 <= n
 · obtain ⟨h1, h8, h0⟩ := hok
   obtain ⟨k, rfl⟩ := Int.eq_ofNat_of_zero_le (show 0 <= width by omega)
   obtain ⟨m, rfl⟩ := Int.eq_ofNat_of_zero_le h0
   have a1 : decide ((k : Int) < 1) = false := by simp; omega
   have a2 : decide ((8 : Int) < (k : Int)) = false := by simp; omega
   have a3 : decide ((m : Int) < 0) = false := by simp
   have hb := bad_false_ou (m := m) (show 1 <= k by omega) (show k <= 8 by omega)
   have Hb := hQ_ hb
   clear hb
   go_enter Tryz.func82, Tryz.ntmps82
   go_wp2_with fail
   go_loop [0, 5] (fun q i => ∃ j : Nat, j <= k /\ i = .int .i64 (j : Int) /\ q = .int .i64 ((m / 256 ^ j : Nat) : Int)) (fun _ i => k - (intOf i).toNat)
   case atStart => exact ⟨0, Nat.zero_le _, rfl, by simp⟩
   case round =>
    obtain ⟨j, hj, rfl, rfl⟩ := hrel
    have hd : m / 256 ^ (j + 1) = m / 256 ^ j / 256 := by rw [Nat.pow_succ, Nat.div_div_eq_div_mul]
    have Hd := hQ_ hd
    clear hd
    have hqm : m / 256 ^ j <= m := Nat.div_le_self _ _
    generalize hq : m / 256 ^ j = q at *
    by_cases hlt : j < k
    · have hb : decide ((j : Int) < (k : Int)) = true := by simp; omega
      have Hq := hQ_ hq
      clear hq
      go_wp2_with fail
      go_round
      case rel => exact ⟨j + 1, by omega, by go_num, by rw [Hd.out]; rfl⟩
      case measure => simp [intOf]; omega
    · obtain rfl : j = k := by omega
      have hb : decide ((j : Int) < (j : Int)) = false := by simp
      have Hq := hQ_ hq
      clear hq
      go_wp2_with fail
      go_ret
      refine ⟨?_, rfl⟩
      have e : ((((q : Nat) : Int)) == 0) = !(!decide (q = 0)) := by rw [Bool.eq_iff_iff]; simp
      rw [Hb.out, Hq.out]
      exact congrArg (fun b => Ending.returned (Value.bool b)) e
 · have hbad : badNum n width = true := by
     unfold badNum
     by_cases b1 : width < 1
     · simp [b1]
     · by_cases b2 : 8 < width
       · simp [b2]
       · have b3 : n < 0 := by omega
         simp [b3]
   rw [hbad]
   by_cases b1 : width < 1
   · have a1 : decide (width < 1) = true := by simpa using b1
     clear hbad hok b1
     go_enter Tryz.func82, Tryz.ntmps82
     go_wp2
     go_ret
     exact ⟨rfl, rfl⟩
   · by_cases b2 : 8 < width
     · have a1 : decide (width < 1) = false := by simpa using b1
       have a2 : decide (8 < width) = true := by simpa using b2
       clear hbad hok b1 b2
       go_enter Tryz.func82, Tryz.ntmps82
       go_wp2
       go_ret
       exact ⟨rfl, rfl⟩
     · have a1 : decide (width < 1) = false := by simpa using b1
       have a2 : decide (8 < width) = false := by simpa using b2
       have a3 : decide (n < 0) = true := by simp; omega
       clear hbad hok b1 b2
       go_enter Tryz.func82, Tryz.ntmps82
       go_wp2
       go_ret
       exact ⟨rfl, rfl⟩
theorem mk_ou1 (w : World) : (Instr.makeSlice 81 (.int .i64 1) (.int .i64 1)).run Tryz.prog w = .ok (.slice (some ⟨w.heap.size, 0, none⟩) 1 1) (w.alloc (.cells (Array.replicate 1 (Value.int .u8 0)) 5)) := by kernel_rfl
theorem mk_ou2 (w : World) : (Instr.makeSlice 81 (.int .i64 2) (.int .i64 2)).run Tryz.prog w = .ok (.slice (some ⟨w.heap.size, 0, none⟩) 2 2) (w.alloc (.cells (Array.replicate 2 (Value.int .u8 0)) 5)) := by kernel_rfl
theorem mk_ou3 (w : World) : (Instr.makeSlice 81 (.int .i64 3) (.int .i64 3)).run Tryz.prog w = .ok (.slice (some ⟨w.heap.size, 0, none⟩) 3 3) (w.alloc (.cells (Array.replicate 3 (Value.int .u8 0)) 5)) := by kernel_rfl
theorem mk_ou4 (w : World) : (Instr.makeSlice 81 (.int .i64 4) (.int .i64 4)).run Tryz.prog w = .ok (.slice (some ⟨w.heap.size, 0, none⟩) 4 4) (w.alloc (.cells (Array.replicate 4 (Value.int .u8 0)) 5)) := by kernel_rfl
theorem mk_ou5 (w : World) : (Instr.makeSlice 81 (.int .i64 5) (.int .i64 5)).run Tryz.prog w = .ok (.slice (some ⟨w.heap.size, 0, none⟩) 5 5) (w.alloc (.cells (Array.replicate 5 (Value.int .u8 0)) 5)) := by kernel_rfl
theorem mk_ou6 (w : World) : (Instr.makeSlice 81 (.int .i64 6) (.int .i64 6)).run Tryz.prog w = .ok (.slice (some ⟨w.heap.size, 0, none⟩) 6 6) (w.alloc (.cells (Array.replicate 6 (Value.int .u8 0)) 5)) := by kernel_rfl
theorem mk_ou7 (w : World) : (Instr.makeSlice 81 (.int .i64 7) (.int .i64 7)).run Tryz.prog w = .ok (.slice (some ⟨w.heap.size, 0, none⟩) 7 7) (w.alloc (.cells (Array.replicate 7 (Value.int .u8 0)) 5)) := by kernel_rfl
theorem mk_ou8 (w : World) : (Instr.makeSlice 81 (.int .i64 8) (.int .i64 8)).run Tryz.prog w = .ok (.slice (some ⟨w.heap.size, 0, none⟩) 8 8) (w.alloc (.cells (Array.replicate 8 (Value.int .u8 0)) 5)) := by kernel_rfl
theorem mk_ou (k : Nat) (h1 : 1 <= k) (h8 : k <= 8) (w : World) : (Instr.makeSlice 81 (.int .i64 (k : Int)) (.int .i64 (k : Int))).run Tryz.prog w = .ok (.slice (some ⟨w.heap.size, 0, none⟩) k k) (w.alloc (.cells (Array.replicate k (Value.int .u8 0)) 5)) := by
 have : k = 1 \/ k = 2 \/ k = 3 \/ k = 4 \/ k = 5 \/ k = 6 \/ k = 7 \/ k = 8 := by omega
 rcases this with rfl | rfl | rfl | rfl | rfl | rfl | rfl | rfl
 · exact mk_ou1 w
 · exact mk_ou2 w
 · exact mk_ou3 w
 · exact mk_ou4 w
 · exact mk_ou5 w
 · exact mk_ou6 w
 · exact mk_ou7 w
 · exact mk_ou8 w
theorem set_mid_ou (j : Nat) (y z : Value) (r : List Value) : ((List.replicate (j + 1) y ++ r).toArray).setIfInBounds j z = (List.replicate j y ++ z :: r).toArray := by
 rw [List.setIfInBounds_toArray, List.replicate_succ', List.append_assoc, List.set_append_right _ _ (by simp)]
 simp
theorem refNumber_any (w : World) (m k : Nat) (hmax : (m : Int) <= 9223372036854775807) (h1 : 1 <= k) (h8 : k <= 8) :
    Calls Tryz.prog 83 #[.int .i64 (m : Int), .int .i64 (k : Int)] w fun e w' => e = .returned (.slice (some ⟨w.heap.size, 0, none⟩) k k) /\ Blk w' w.heap.size 5 (Lib.byteCells (be k m)).toArray /\ w.grownBy w' none := by
 have hmk := mk_ou k h1 h8
 go_enter Tryz.func83, Tryz.ntmps83
 go_wp2_with fail
 have hb1 := Blk.new w 5 (Array.replicate k (Value.int .u8 0))
 have k1 := (Kept.refl (fun _ => False) w).alloc (.cells (Array.replicate k (Value.int .u8 0)) 5)
 generalize w.alloc (.cells (Array.replicate k (Value.int .u8 0)) 5) = w1 at *
 go_loopw [0, 6] (fun q i wr => ∃ j : Nat, j <= k /\ i = .int .i64 ((j : Int) - 1) /\ q = .int .i64 ((m / 256 ^ (k - j) : Nat) : Int) /\ Blk wr w.heap.size 5 (List.replicate j (Value.int .u8 0) ++ Lib.byteCells (be (k - j) m)).toArray /\ Kept (fun _ => False) w wr) (fun _ i _ => (intOf i + 1).toNat)
 case atStart => exact ⟨k, Nat.le_refl _, rfl, by simp, by simpa [be, Lib.byteCells] using hb1, k1⟩
 case round =>
  obtain ⟨j, hj, hi, rfl, hb, hK⟩ := hrel
  rcases j with _ | j
  · subst hi
    go_wp2_with fail
    go_ret
    exact ⟨rfl, by simpa using hb, hK.grownNone (fun _ _ h => h)⟩
  · have hi' := hi.trans (show Value.int .i64 (((j + 1 : Nat) : Int) - 1) = .int .i64 (j : Int) by congr 1; omega)
    clear hi
    subst hi'
    have hd : m / 256 ^ (k - j) = m / 256 ^ (k - (j + 1)) / 256 := by
     rw [show k - j = (k - (j + 1)) + 1 by omega, Nat.pow_succ, Nat.div_div_eq_div_mul]
    have hbe : be (k - j) m = UInt8.ofNat (m / 256 ^ (k - (j + 1))) :: be (k - (j + 1)) m := by
     rw [show k - j = (k - (j + 1)) + 1 by omega]; rfl
    have Hd := hQ_ hd
    have Hbe := hQ_ hbe
    clear hd hbe
    have hcell := hb.cell j
    have hfr := hb.frozen j
    rw [show (List.replicate (j + 1) (Value.int .u8 0) ++ Lib.byteCells (be (k - (j + 1)) m)).toArray[j]? = some (Value.int .u8 0) by simp [List.getElem?_append]] at hcell
    have Hset := hQ_ (hb.set j)
    clear hb
    have hqm : m / 256 ^ (k - (j + 1)) <= m := Nat.div_le_self _ _
    generalize hq : m / 256 ^ (k - (j + 1)) = q at *
    have Hq := hQ_ hq
    clear hq
    go_wp2_with fail
    go_roundw
    case rel =>
     refine ⟨j, by omega, rfl, by rw [Hd.out]; rfl, ?_, hK.set (.inr (Nat.le_refl _)) _⟩
     have h := Hset.out (Value.int .u8 ((q : Int) % 256))
     rw [set_mid_ou] at h
     rw [Hbe.out]
     have e : Value.int .u8 ((q : Int) % 256) = Value.int .u8 ((UInt8.ofNat q).toNat : Nat) := by congr 1
     rw [e] at h ⊢
     exact h
    case measure => simp [intOf]
theorem own_of_blk {w : World} {g : Nat} {l : List UInt8} {n : Nat} (h : Blk w g 5 (Lib.byteCells l).toArray) (hn : l.length = n) (hm : n <= 65535) : w.ownsRow 0 5 1 (.slice (some ⟨g, 0, none⟩) n n) n (Lib.byteCells l) := by
 subst hn
 refine ⟨by simp [Lib.byteCells], .inr ⟨g, l.length, _, rfl, Nat.zero_le _, h, Nat.le_refl _, by unfold maxLen; omega, by simp [Lib.byteCells], ?_⟩⟩
 simp [Lib.byteCells, List.take_of_length_le]
section
variable {P : Program} (w : World)
theorem vj {ops : Array Oper} {o : Oper} {a : Act} {K : Act -> World -> Prop} {Q : Exit -> Act -> World -> Prop} {E : Prop} (hgd : o.guard = none) (s x : Operand) (t : TypeId)
    (ho : o.op = .call { callee := .builtin .append, args := #[s, x], argTypes := #[t, t] })
    (base : Nat) (e : TypeId) (i : TypeInfo) (z : Value) (ht : P.underlying t = some (.slice e)) (hi : P.info? e = some i) (hz : i.zero = some z)
    (hsize : i.size = 1) (hby : i.bytes = 1) (hzs : z.cells.size = 1)
    (v : Value) (n : Nat) (xs : List Value) (hs : a.eval s = v) (hown : w.ownsRow base e 1 v n xs)
    (A : Option Addr) (c : Nat) (l : List UInt8) (hx : a.eval x = .slice A l.length c) (hr : zt w A l) (h63 : n + l.length <= 140737488355328) (hbase : base <= w.heap.size)
    (h : ∀ A' cap' w', w'.ownsRow base e 1 (.slice A' (n + l.length) cap') (n + l.length) (xs ++ Lib.byteCells l) -> w.grownBy w' v.ownBlock -> ((Value.slice A' (n + l.length) cap').ownBlock = v.ownBlock \/ (Value.slice A' (n + l.length) cap').ownBlock = some w.heap.size) -> K (a.put o.dst (.slice A' (n + l.length) cap')) w') :
    if Region.wanted o (yielded ops a.tmps) = true then Oper.wp P o a w K Q else E := by
 have hw : Region.wanted o (yielded ops a.tmps) = true := by simp [Region.wanted, hgd]
 rw [if_pos hw]
 exact wp_append_bytes w s x t ho base e i z ht hi hz hsize hby hzs v n xs hs hown A c l hx hr h63 hbase h
end
end
section
abbrev WSt := Nat × List UInt8
def sFail (k : Nat) (s : WSt) : WSt := if s.1 = 0 then (k, s.2) else s
def sFix (x : List UInt8) (s : WSt) : WSt := if s.1 = 0 then (0, s.2 ++ x) else s
def sNum (n w : Int) (s : WSt) : WSt := if badNum n w = true then sFail 1 s else sFix (be w.toNat n.toNat) s
def sBytes (x : List UInt8) (most : Int) (s : WSt) : WSt := if most < (x.length : Int) \/ 65535 < x.length then sFail 1 s else sFix x (sNum (x.length : Int) 2 s)
def sPut (n : Nat) (most : Int) (f : WSt -> WSt) (s : WSt) : WSt := if most < (n : Int) \/ 255 < n then sFail 1 s else f (sNum (n : Int) 1 s)
def sAll {α : Type} (f : α -> WSt -> WSt) (L : List α) (s : WSt) : WSt := L.foldl (fun s x => f x s) s
theorem zd7 {α : Type} (f : α -> WSt -> WSt) (s : WSt) : sAll f [] s = s := rfl
theorem ut {α : Type} (f : α -> WSt -> WSt) (L : List α) (x : α) (s : WSt) : sAll f (L ++ [x]) s = f x (sAll f L s) := by simp [sAll, List.foldl_append]
def Adds (c : Nat) (f : WSt -> WSt) : Prop := ∀ s, (f s).2.length <= s.2.length + c
theorem Adds.mono {c d : Nat} {f : WSt -> WSt} (h : Adds c f) (hcd : c <= d) : Adds d f := fun s => Nat.le_trans (h s) (by omega)
theorem Adds.comp {c d : Nat} {f g : WSt -> WSt} (h : Adds c f) (k : Adds d g) : Adds (c + d) (fun s => g (f s)) := fun s => by
 have h1 := h s
 have h2 := k (f s)
 show (g (f s)).2.length <= _
 omega
theorem zco (k c : Nat) : Adds c (sFail k) := fun s => by unfold sFail; split <;> simp <;> omega
theorem zev (x : List UInt8) : Adds x.length (sFix x) := fun s => by unfold sFix; split <;> simp
theorem yl (n : Int) (w : Nat) : Adds w (sNum n (w : Int)) := fun s => by
 unfold sNum
 split
 · exact zco 1 w s
 · exact Nat.le_trans (zev _ s) (by rw [zau]; simp)
theorem u7 {α : Type} {f : α -> WSt -> WSt} {c : Nat} (L : List α) (h : ∀ x ∈ L, Adds c (f x)) : Adds (L.length * c) (sAll f L) := fun s => by
 induction L generalizing s with
 | nil => simp [sAll]
 | cons x r ih =>
  have h1 := ih (fun y hy => h y (List.mem_cons_of_mem _ hy)) (f x s)
  have h2 := h x (List.mem_cons_self ..) s
  have : sAll f (x :: r) s = sAll f r (f x s) := rfl
  rw [this, List.length_cons, Nat.succ_mul]
  omega
theorem zax {n : Nat} {most : Int} {c m : Nat} {f : WSt -> WSt} (hm : most = (m : Int)) (h : n <= m -> Adds (n * c) f) : Adds (1 + m * c) (sPut n most f) := fun s => by
 subst hm
 unfold sPut
 split
 · exact zco 1 _ s
 · have hn : n <= m := by omega
   have h1 := yl (n : Int) 1 s
   have h2 := h hn (sNum (n : Int) 1 s)
   have h3 : n * c <= m * c := Nat.mul_le_mul_right c hn
   have h4 : sNum (n : Int) 1 s = sNum (n : Int) ((1 : Nat) : Int) s := rfl
   rw [h4] at h2 ⊢
   omega
theorem adds_bytes (x : List UInt8) (m : Nat) : Adds (2 + m) (sBytes x (m : Int)) := fun s => by
 unfold sBytes
 split
 · exact zco 1 _ s
 · have h1 := yl (x.length : Int) 2 s
   have h2 := zev x (sNum (x.length : Int) ((2 : Nat) : Int) s)
   have h4 : sNum (x.length : Int) 2 s = sNum (x.length : Int) ((2 : Nat) : Int) s := rfl
   rw [h4]
   omega
def dgB (d : List Int) : List UInt8 := d.map fun z => UInt8.ofNat z.toNat
theorem zah (d : List Int) : (dgB d).length = d.length := by simp [dgB]
def sDig (d : List Int) : WSt -> WSt := sFix (dgB d)
def sSig (lf : Int) (cs ps : List (List Int)) (s : WSt) : WSt := sPut ps.length 5 (sAll sDig ps) (sPut cs.length 68 (sAll sDig cs) (sNum lf 1 s))
theorem ym {d : List Int} (h : d.length = 16) : Adds 16 (sDig d) := (zev _).mono (by rw [zah, h]; exact Nat.le_refl _)
theorem zcp {ds : List (List Int)} (h : ∀ d ∈ ds, d.length = 16) : Adds (ds.length * 16) (sAll sDig ds) := u7 ds fun d hd => ym (h d hd)
theorem adds_sig {lf : Int} {cs ps : List (List Int)} (hc : ∀ d ∈ cs, d.length = 16) (hp : ∀ d ∈ ps, d.length = 16) : Adds 1171 (sSig lf cs ps) :=
 (((yl lf 1).comp (zax (m := 68) rfl fun _ => zcp hc)).comp (zax (m := 5) rfl fun _ => zcp hp)).mono (by omega)
end
section
theorem Kept.follow_ou {F G : Nat -> Prop} {a b c : World} (h : Kept F a b) (k : Kept G b c) (hF : ∀ k, k < a.heap.size -> G k -> F k) : Kept F a c :=
 ⟨k.os.trans h.os, k.tape.trans h.tape, k.output.trans h.output, Nat.le_trans h.size k.size, fun i hi hn => (k.block i (Nat.lt_of_lt_of_le hi h.size) (fun hg => hn (hF i hi hg))).trans (h.block i hi hn)⟩
def OutIs (w : World) (F : Nat -> Prop) (g : Nat) (s : WSt) : Prop :=
 F g /\ ∃ bA bc, Blk w g 109 #[.slice bA s.2.length bc, .int .i64 (s.1 : Int)] /\ w.ownsRow 0 5 1 (.slice bA s.2.length bc) s.2.length (Lib.byteCells s.2) /\ ∀ ad, bA = some ad -> F ad.block
theorem OutIs.mono {w : World} {F G : Nat -> Prop} {g : Nat} {s : WSt} (h : OutIs w F g s) (hF : ∀ k, k < w.heap.size -> F k -> G k) : OutIs w G g s := by
 obtain ⟨hg, bA, bc, hb, hown, hA⟩ := h
 exact ⟨hF g hb.lt hg, bA, bc, hb, hown, by rintro ad rfl; exact hF _ (hown.lt ad.block rfl).2 (hA ad rfl)⟩
theorem OutIs.upTo {w : World} {F : Nat -> Prop} {g : Nat} {s : WSt} (h : OutIs w F g s) (a b : Nat) : OutIs w (upTo F a b) g s := h.mono fun _ _ h => .inl h
theorem OutIs.grown {w w' : World} {F : Nat -> Prop} {g : Nat} {s : WSt} (h : OutIs w F g s) (hg : w.grownBy w' none) : OutIs w' F g s := by
 obtain ⟨hBg, bA, bc, hb, hown, hF⟩ := h
 exact ⟨hBg, bA, bc, hb.grown hg (by simp), hown.kept hg (by cases hv : (Value.slice bA s.2.length bc).ownBlock <;> simp), hF⟩
structure OI (w0 : World) (g : Nat) (F : Nat -> Prop) (s : WSt) (w : World) : Prop where
 wr : OutIs w F g s
 low : ∀ k, F k -> w0.heap.size <= k
 kept : Kept (fun k => w0.heap.size <= k) w0 w
structure OP (w0 : World) (g : Nat) (F : Nat -> Prop) (s : WSt) (w w' : World) : Prop where
 wi : OI w0 g (upTo F w.heap.size w'.heap.size) s w'
 fine : Kept F w w'
section
variable {w0 w w' w'' : World} {g : Nat} {F : Nat -> Prop} {s s' : WSt}
theorem OI.size (h : OI w0 g F s w) : w0.heap.size <= w.heap.size := h.kept.size
theorem OI.next (h : OI w0 g F s w) (k : Kept F w w') : Kept (fun k => w0.heap.size <= k) w0 w' := h.kept.follow_ou k fun j _ hj => h.low j hj
theorem OI.step (h : OI w0 g F s w) (k : Kept F w w') (hw : OutIs w' (upTo F w.heap.size w'.heap.size) g s') : OP w0 g F s' w w' :=
 ⟨⟨hw, fun j hj => by
  rcases hj with h1 | ⟨h1, _⟩
  · exact h.low j h1
  · exact Nat.le_trans h.size h1, h.next k⟩, k⟩
theorem OI.grown (h : OI w0 g F s w) (hg : w.grownBy w' none) : OP w0 g F s w w' := h.step (Kept.of_grown hg fun _ e => by cases e) ((h.wr.grown hg).upTo _ _)
theorem OI.drew (h : OI w0 g F s w) : OI w0 g F s w.drew := ⟨h.wr, h.low, h.kept.drew⟩
theorem OP.drew (h : OP w0 g F s w w') : OP w0 g F s w w'.drew := ⟨⟨h.wi.wr, h.wi.low, h.wi.kept.drew⟩, h.fine.drew⟩
theorem OI.same (h : OI w0 g F s w) : OP w0 g F s w w := h.grown (World.grownBy.refl _ _)
theorem OP.trans (h : OP w0 g F s w w') (k : OP w0 g (upTo F w.heap.size w'.heap.size) s' w' w'') : OP w0 g F s' w w'' := by
 have z1 := h.fine.size
 have z2 := k.fine.size
 refine ⟨⟨k.wi.wr.mono fun j _ hj => zez z1 z2 j hj, fun j hj => ?_, k.wi.kept⟩, h.fine.trans k.fine⟩
 rcases hj with h1 | ⟨h1, h2⟩
 · exact h.wi.low j (.inl h1)
 · by_cases h3 : j < w'.heap.size
   · exact h.wi.low j (.inr ⟨h1, h3⟩)
   · exact k.wi.low j (.inr ⟨by omega, h2⟩)
theorem OI.opened (h : OI w0 g F s w) (hg : w.grownBy w' none) : OI w0 g (fun k => F k /\ k < w.heap.size) s w' :=
 ⟨(h.wr.mono (G := fun k => F k /\ k < w.heap.size) fun j hj hf => ⟨hf, hj⟩).grown hg, fun j hj => h.low j hj.1, (h.grown hg).wi.kept⟩
theorem OP.closed (hi : OI w0 g F s' w) (hg : w.grownBy w' none) (k : OP w0 g (fun k => F k /\ k < w.heap.size) s w' w'') : OP w0 g F s w w'' := by
 have z1 := hg.size
 have z2 := k.fine.size
 refine ⟨⟨k.wi.wr.mono fun j _ hj => ?_, fun j hj => ?_, k.wi.kept⟩, (Kept.of_grown (F := F) hg fun _ e => by cases e).follow_ou k.fine fun _ _ hj => hj.1⟩
 · rcases hj with ⟨h1, _⟩ | ⟨h1, h2⟩
   · exact .inl h1
   · exact .inr ⟨by omega, h2⟩
 · rcases hj with h1 | ⟨h1, h2⟩
   · by_cases h3 : j < w.heap.size
     · exact k.wi.low j (.inl ⟨h1, h3⟩)
     · exact Nat.le_trans hi.size (by omega)
   · exact Nat.le_trans hi.size h1
theorem OutIs.pushed {w1 : World} {l : List UInt8} {bA : Option Addr} {bc : Nat} {A' : Option Addr} {cap' : Nat} {x : List UInt8} (hBg : F g) (hb : Blk w g 109 #[.slice bA l.length bc, .int .i64 0]) (hown : w.ownsRow 0 5 1 (.slice bA l.length bc) l.length (Lib.byteCells l)) (hF : ∀ ad, bA = some ad -> F ad.block)
    (hown1 : w1.ownsRow 0 5 1 (.slice A' (l.length + x.length) cap') (l.length + x.length) (Lib.byteCells l ++ Lib.byteCells x)) (hgrow : w.grownBy w1 (Value.slice bA l.length bc).ownBlock)
    (hat : (Value.slice A' (l.length + x.length) cap').ownBlock = (Value.slice bA l.length bc).ownBlock \/ (Value.slice A' (l.length + x.length) cap').ownBlock = some w.heap.size) :
    OutIs (w1.setCell ⟨g, 0, none⟩ (.slice A' (l.length + x.length) cap')) (Proofs.YtigafnbofmiknaaGreatDoor.upTo F w.heap.size w1.heap.size) g (0, l ++ x) /\ Kept F w (w1.setCell ⟨g, 0, none⟩ (.slice A' (l.length + x.length) cap')) := by
 have hb1 : Blk w1 g 109 #[.slice bA l.length bc, .int .i64 0] := hb.grown hgrow (own_ne hown hb (by decide)).symm
 refine ⟨⟨.inl hBg, A', cap', ?_, ?_, ?_⟩, (Kept.of_grown hgrow fun k hk => own_in hF hk).set (.inl hBg) _⟩
 · have := hb1.set 0 (.slice A' (l.length + x.length) cap')
   simpa [List.length_append] using this
 · have := zcw hown1 hb1 (by decide) 0 (.slice A' (l.length + x.length) cap')
   rw [Lib.byteCells_append, List.length_append]
   exact this
 · rintro ad rfl
   have hlt := (hown1.lt ad.block rfl).2
   rcases hat with h | h
   · exact .inl (own_in hF h.symm)
   · have : ad.block = w.heap.size := by simpa [Value.ownBlock] using h
     exact .inr ⟨by omega, hlt⟩
theorem onum_st (h : OI w0 g F s w) (hs : s.2.length <= 70368744177664) (n : Int) (hmax : n <= 9223372036854775807) (k : Nat) (h1 : 1 <= k) (h8 : k <= 8) :
    Calls Tryz.prog 62 #[.pointer (some ⟨g, 0, none⟩), .int .i64 n, .int .i64 (k : Int)] w fun e w' => e = .returned (.tuple #[]) /\ OP w0 g F (sNum n (k : Int) s) w w' := by
 obtain ⟨e0, l⟩ := s
 obtain ⟨i0, hi, hz0, hz1, hz2⟩ := info_parts zdg
 obtain ⟨hBg, bA, bc, hb, hown, hF⟩ := h.wr
 have c0 := hb.cell 0
 have c1 := hb.cell 1
 simp at c0 c1
 simp only at hs
 rcases e0 with _ | e0
 · by_cases hbad : badNum n (k : Int) = true
   · have hr : sNum n (k : Int) (0, l) = (1, l) := by unfold sNum sFail; rw [if_pos hbad]; rfl
     have hf := fits_any w n (k : Int) hmax
     rw [hbad] at hf
     have HF := hQ_ hf
     have f1 := hb.frozen 1
     have HR := hQ_ (show OP w0 g F (1, l) w (w.setCell ⟨g, 1, none⟩ (.int .i64 1)) from h.step ((Kept.refl F w).set (.inl hBg) _) ⟨.inl hBg, bA, bc, by simpa using hb.set 1 (.int .i64 1), zcw hown hb (by decide) 1 _, fun ad e => .inl (hF ad e)⟩)
     have d1 : (w.setCell ⟨g, 1, none⟩ (.int .i64 1)).cell? ⟨g, 1, none⟩ = some (.int .i64 1) := by
      have := (hb.set 1 (.int .i64 1)).cell 1
      simpa using this
     rw [hr]
     clear hf hr hbad
     go_enter Tryz.func62, Tryz.ntmps62
     go_wp2_with fail
     refine HF.out.mono ?_
     rintro e w1 ⟨rfl, rfl⟩
     go_wp2_with fail
     go_end0
     exact ⟨rfl, HR.out⟩
   · have hbad : badNum n (k : Int) = false := by simpa using hbad
     obtain ⟨m, rfl⟩ : ∃ m : Nat, n = (m : Int) := by
      refine Int.eq_ofNat_of_zero_le ?_
      by_cases h0 : 0 <= n
      · exact h0
      · exfalso
        unfold badNum at hbad
        have : decide (n < 0) = true := by simp; omega
        simp [this] at hbad
     have hr : sNum (m : Int) (k : Int) (0, l) = (0, l ++ be k m) := by unfold sNum sFix; rw [if_neg (by rw [hbad]; simp)]; simp
     have hf := fits_any w (m : Int) (k : Int) hmax
     rw [hbad] at hf
     have HF := hQ_ hf
     have HI := hQ_ (aQ hi (aQ hz0 (aQ hz1 hz2)))
     have HH := hQ_ h
     have HB := hQ_ (aQ hBg (aQ hb (aQ hown hF)))
     obtain ⟨x, hx⟩ : ∃ x, be k m = x := ⟨_, rfl⟩
     have hxl : x.length = k := by rw [<- hx, zau]
     rw [hr, hx]
     clear hf hr hbad hi hz0 hz1 hz2 h hBg hb hown hF
     go_enter Tryz.func62, Tryz.ntmps62
     go_wp2_with fail
     refine HF.out.mono ?_
     rintro e w1 ⟨rfl, rfl⟩
     go_upto_region 3 with (fail)
     have HN2 := hQ_ (show Calls Tryz.prog 83 #[.int .i64 (m : Int), .int .i64 (k : Int)] w.drew fun e w' => e = .returned (.slice (some ⟨w.drew.heap.size, 0, none⟩) x.length x.length) /\ Blk w' w.drew.heap.size 5 (Lib.byteCells x).toArray /\ w.drew.grownBy w' none by rw [hxl, <- hx]; exact refNumber_any w.drew m k hmax h1 h8)
     have c0d : w.drew.cell? ⟨g, 0, none⟩ = some (.slice bA l.length bc) := c0
     have HX := hQ_ (fun (w1 : World) (hbn : Blk w1 w.drew.heap.size 5 (Lib.byteCells x).toArray) (gn : w.drew.grownBy w1 none) =>
      aQ (zba (own_of_blk hbn rfl (by omega))) (aQ (World.ownsRow.kept (show w.drew.ownsRow 0 5 1 (.slice bA l.length bc) l.length (Lib.byteCells l) from HB.out.2.2.1) gn (by cases hv : (Value.slice bA l.length bc).ownBlock <;> simp)) (Blk.grown (show Blk w.drew g 109 #[.slice bA l.length bc, .int .i64 0] from HB.out.2.1) gn (by simp))))
     have HXL := hQ_ (aQ hxl h8)
     clear hx hxl
     refine wp_region_held_drew (S := fun _ => True) (by kernel_rfl) trivial (fun hHeld => ?_)
     refine wpAnyH_take (i := 0) (oi := _) (v := ?vn0) rfl (by kernel_rfl) (by kernel_rfl) (by kernel_rfl) (fun _ _ _ h => h) (Or.inl ⟨by rfl, ?hyn0⟩) (by assumption) ?restn0
     case hyn0 => (intro V hSw; (try dsimp only at hSw); go_simp) <;> with_reducible rfl
     try simp only [Act.put, List.getElem_toArray, List.getElem_cons_succ, List.getElem_cons_zero, List.setIfInBounds_toArray, List.set_cons_zero, List.set_cons_succ]
     refine wpAnyH_take (i := 1) (oi := _) (v := ?vn1) rfl (by kernel_rfl) (by kernel_rfl) (by kernel_rfl) (fun _ _ _ h => h) (Or.inl ⟨by rfl, ?hyn1⟩) (by assumption) ?restn1
     case hyn1 => (intro V hSw; (try dsimp only at hSw); go_simp) <;> with_reducible rfl
     try simp only [Act.put, List.getElem_toArray, List.getElem_cons_succ, List.getElem_cons_zero, List.setIfInBounds_toArray, List.set_cons_zero, List.set_cons_succ]
     refine wpAnyH_take (i := 2) (oi := _) (v := ?vn2) rfl (by kernel_rfl) (by kernel_rfl) (by kernel_rfl) (fun _ _ _ h => h) (Or.inl ⟨by rfl, ?hyn2⟩) (by assumption) ?restn2
     case hyn2 => (intro V hSw; (try dsimp only at hSw); go_simp) <;> with_reducible rfl
     try simp only [Act.put, List.getElem_toArray, List.getElem_cons_succ, List.getElem_cons_zero, List.setIfInBounds_toArray, List.set_cons_zero, List.set_cons_succ]
     refine wpAnyH_take (i := 3) (oi := _) (v := ?vn3) rfl (by kernel_rfl) (by kernel_rfl) (by kernel_rfl) (fun _ _ _ h => h) (Or.inl ⟨by rfl, ?hyn3⟩) (by assumption) ?restn3
     case hyn3 => (intro V hSw; (try dsimp only at hSw); go_simp) <;> with_reducible rfl
     try simp only [Act.put, List.getElem_toArray, List.getElem_cons_succ, List.getElem_cons_zero, List.setIfInBounds_toArray, List.set_cons_zero, List.set_cons_succ]
     refine wpAnyH_take (i := 5) (oi := _) (v := ?vn5) rfl (by kernel_rfl) (by kernel_rfl) (by kernel_rfl) (fun _ _ _ h => h) (Or.inl ⟨by rfl, ?hyn5⟩) (by assumption) ?restn5
     case hyn5 => (intro V hSw; (try dsimp only at hSw); go_simp) <;> with_reducible rfl
     try simp only [Act.put, List.getElem_toArray, List.getElem_cons_succ, List.getElem_cons_zero, List.setIfInBounds_toArray, List.set_cons_zero, List.set_cons_succ]
     refine wpAnyH_take (i := 6) (oi := _) (v := ?vn6) rfl (by kernel_rfl) (by kernel_rfl) (by kernel_rfl) (fun _ _ _ h => h) (Or.inl ⟨by rfl, ?hyn6⟩) (by assumption) ?restn6
     case hyn6 => (intro V hSw; (try dsimp only at hSw); go_simp) <;> with_reducible rfl
     try simp only [Act.put, List.getElem_toArray, List.getElem_cons_succ, List.getElem_cons_zero, List.setIfInBounds_toArray, List.set_cons_zero, List.set_cons_succ]
     refine wpAnyH_ready (rs := [4, 7]) (by kernel_rfl) (by simp) ?_
     refine (AllReadyH.cons (o := _) rfl (fun K9 hK => ?_) (AllReadyH.cons (o := _) rfl (fun K9 hK => ?_) AllReadyH.nil))
     · go_simp
       refine hK.out _ _ trivial (fun hHeld => ?_)
       clear hK K9
       try simp only [Act.put, List.getElem_toArray, List.getElem_cons_succ, List.getElem_cons_zero, List.setIfInBounds_toArray, List.set_cons_zero, List.set_cons_succ]
       refine wpAnyH_ready (rs := [7]) (by kernel_rfl) (by simp) ?_
       refine (AllReadyH.cons (o := _) rfl (fun K9 hK => ?_) AllReadyH.nil)
       go_simp
       refine HN2.out.mono ?_
       rintro e w1 ⟨rfl, hbn, gn⟩
       have d0 := gn.cell c0d (by simp)
       have HG := hQ_ gn
       have HY := hQ_ (HX.out w1 hbn gn)
       clear hbn gn
       (try go_wp2_with fail)
       refine hK.out _ _ trivial (fun hHeld => ?_)
       clear hK K9
       try simp only [Act.put, List.getElem_toArray, List.getElem_cons_succ, List.getElem_cons_zero, List.setIfInBounds_toArray, List.set_cons_zero, List.set_cons_succ]
       refine wpAnyH_ready (rs := [8]) (by kernel_rfl) (by simp) ?_
       refine (AllReadyH.cons (o := _) rfl (fun K9 hK => ?_) AllReadyH.nil)
       refine vj _ (by rfl) _ _ _ (by rfl) 0 5 i0 _ Tryz.underlying81 HI.out.1 HI.out.2.1 HI.out.2.2.1 HI.out.2.2.2 rfl (.slice bA l.length bc) l.length (Lib.byteCells l) (by rfl) HY.out.2.1 (some ⟨w.drew.heap.size, 0, none⟩) _ x (by rfl) HY.out.1 (by have := HXL.out; omega) (Nat.zero_le _) ?_
       intro A' cap' w3 hown1 hgrow hat
       have hb3 := HY.out.2.2.grown hgrow (own_ne HY.out.2.1 HY.out.2.2 (by decide)).symm
       have f0 := hb3.frozen 0
       have d3 : w3.cell? ⟨g, 0, none⟩ = some (.slice bA l.length bc) := hb3.cell 0
       clear hb3
       have HP := hQ_ (OutIs.pushed (F := F) HB.out.1 HY.out.2.2 HY.out.2.1 HB.out.2.2.2 hown1 hgrow hat)
       clear hown1 hgrow hat
       refine hK.out _ _ trivial (fun hHeld => ?_)
       clear hK K9
       try simp only [Act.put, List.getElem_toArray, List.getElem_cons_succ, List.getElem_cons_zero, List.setIfInBounds_toArray, List.set_cons_zero, List.set_cons_succ]
       refine wpAnyH_take (i := 9) (oi := _) (v := ?va9) rfl (by kernel_rfl) (by kernel_rfl) (by kernel_rfl) (fun _ _ _ h => h) (Or.inl ⟨by rfl, ?hya9⟩) (by assumption) ?resta9
       case hya9 => (intro V hSw; (try dsimp only at hSw); go_simp) <;> with_reducible rfl
       try simp only [Act.put, List.getElem_toArray, List.getElem_cons_succ, List.getElem_cons_zero, List.setIfInBounds_toArray, List.set_cons_zero, List.set_cons_succ]
       refine wpAnyH_take (i := 10) (oi := _) (v := ?va10) rfl (by kernel_rfl) (by kernel_rfl) (by kernel_rfl) (fun _ _ _ h => h) (Or.inl ⟨by rfl, ?hya10⟩) (by assumption) ?resta10
       case hya10 => (intro V hSw; (try dsimp only at hSw); go_simp) <;> with_reducible rfl
       try simp only [Act.put, List.getElem_toArray, List.getElem_cons_succ, List.getElem_cons_zero, List.setIfInBounds_toArray, List.set_cons_zero, List.set_cons_succ]
       refine wpAnyH_ready (rs := [11]) (by kernel_rfl) (by simp) ?_
       refine (AllReadyH.cons (o := _) rfl (fun K9 hK => ?_) AllReadyH.nil)
       go_simp
       refine hK.out _ _ trivial (fun hHeld => ?_)
       clear hK K9
       try simp only [Act.put, List.getElem_toArray, List.getElem_cons_succ, List.getElem_cons_zero, List.setIfInBounds_toArray, List.set_cons_zero, List.set_cons_succ]
       refine wpAnyH_done (by kernel_rfl) ?_ _
       go_wp2
       go_end0
       refine ⟨rfl, (HH.out.same.drew).trans (OI.step HH.out.same.drew.wi ?_ ?_)⟩
       · exact (Kept.of_grown HG.out fun _ e => by cases e).follow_ou HP.out.2 fun j _ hj => .inl hj
       · refine HP.out.1.mono fun j _ hj => ?_
         have := HG.out.size
         rcases hj with h1 | ⟨h1, h2⟩
         · exact .inl (.inl h1)
         · exact .inr ⟨by omega, by simpa [World.setCell] using h2⟩
     · go_simp
       refine HN2.out.mono ?_
       rintro e w1 ⟨rfl, hbn, gn⟩
       have d0 := gn.cell c0d (by simp)
       have HG := hQ_ gn
       have HY := hQ_ (HX.out w1 hbn gn)
       clear hbn gn
       (try go_wp2_with fail)
       refine hK.out _ _ trivial (fun hHeld => ?_)
       clear hK K9
       try simp only [Act.put, List.getElem_toArray, List.getElem_cons_succ, List.getElem_cons_zero, List.setIfInBounds_toArray, List.set_cons_zero, List.set_cons_succ]
       refine wpAnyH_ready (rs := [4]) (by kernel_rfl) (by simp) ?_
       refine (AllReadyH.cons (o := _) rfl (fun K9 hK => ?_) AllReadyH.nil)
       go_simp
       refine hK.out _ _ trivial (fun hHeld => ?_)
       clear hK K9
       try simp only [Act.put, List.getElem_toArray, List.getElem_cons_succ, List.getElem_cons_zero, List.setIfInBounds_toArray, List.set_cons_zero, List.set_cons_succ]
       refine wpAnyH_ready (rs := [8]) (by kernel_rfl) (by simp) ?_
       refine (AllReadyH.cons (o := _) rfl (fun K9 hK => ?_) AllReadyH.nil)
       refine vj _ (by rfl) _ _ _ (by rfl) 0 5 i0 _ Tryz.underlying81 HI.out.1 HI.out.2.1 HI.out.2.2.1 HI.out.2.2.2 rfl (.slice bA l.length bc) l.length (Lib.byteCells l) (by rfl) HY.out.2.1 (some ⟨w.drew.heap.size, 0, none⟩) _ x (by rfl) HY.out.1 (by have := HXL.out; omega) (Nat.zero_le _) ?_
       intro A' cap' w3 hown1 hgrow hat
       have hb3 := HY.out.2.2.grown hgrow (own_ne HY.out.2.1 HY.out.2.2 (by decide)).symm
       have f0 := hb3.frozen 0
       have d3 : w3.cell? ⟨g, 0, none⟩ = some (.slice bA l.length bc) := hb3.cell 0
       clear hb3
       have HP := hQ_ (OutIs.pushed (F := F) HB.out.1 HY.out.2.2 HY.out.2.1 HB.out.2.2.2 hown1 hgrow hat)
       clear hown1 hgrow hat
       refine hK.out _ _ trivial (fun hHeld => ?_)
       clear hK K9
       try simp only [Act.put, List.getElem_toArray, List.getElem_cons_succ, List.getElem_cons_zero, List.setIfInBounds_toArray, List.set_cons_zero, List.set_cons_succ]
       refine wpAnyH_take (i := 9) (oi := _) (v := ?vb9) rfl (by kernel_rfl) (by kernel_rfl) (by kernel_rfl) (fun _ _ _ h => h) (Or.inl ⟨by rfl, ?hyb9⟩) (by assumption) ?restb9
       case hyb9 => (intro V hSw; (try dsimp only at hSw); go_simp) <;> with_reducible rfl
       try simp only [Act.put, List.getElem_toArray, List.getElem_cons_succ, List.getElem_cons_zero, List.setIfInBounds_toArray, List.set_cons_zero, List.set_cons_succ]
       refine wpAnyH_take (i := 10) (oi := _) (v := ?vb10) rfl (by kernel_rfl) (by kernel_rfl) (by kernel_rfl) (fun _ _ _ h => h) (Or.inl ⟨by rfl, ?hyb10⟩) (by assumption) ?restb10
       case hyb10 => (intro V hSw; (try dsimp only at hSw); go_simp) <;> with_reducible rfl
       try simp only [Act.put, List.getElem_toArray, List.getElem_cons_succ, List.getElem_cons_zero, List.setIfInBounds_toArray, List.set_cons_zero, List.set_cons_succ]
       refine wpAnyH_ready (rs := [11]) (by kernel_rfl) (by simp) ?_
       refine (AllReadyH.cons (o := _) rfl (fun K9 hK => ?_) AllReadyH.nil)
       go_simp
       refine hK.out _ _ trivial (fun hHeld => ?_)
       clear hK K9
       try simp only [Act.put, List.getElem_toArray, List.getElem_cons_succ, List.getElem_cons_zero, List.setIfInBounds_toArray, List.set_cons_zero, List.set_cons_succ]
       refine wpAnyH_done (by kernel_rfl) ?_ _
       go_wp2
       go_end0
       refine ⟨rfl, (HH.out.same.drew).trans (OI.step HH.out.same.drew.wi ?_ ?_)⟩
       · exact (Kept.of_grown HG.out fun _ e => by cases e).follow_ou HP.out.2 fun j _ hj => .inl hj
       · refine HP.out.1.mono fun j _ hj => ?_
         have := HG.out.size
         rcases hj with h1 | ⟨h1, h2⟩
         · exact .inl (.inl h1)
         · exact .inr ⟨by omega, by simpa [World.setCell] using h2⟩
 · have hr : sNum n (k : Int) (e0 + 1, l) = (e0 + 1, l) := by unfold sNum; split <;> rfl
   have hne : (((e0 + 1 : Nat) : Int) == 0) = false := by simp; omega
   have HP := hQ_ h.same
   rw [hr]
   clear hr h
   go_enter Tryz.func62, Tryz.ntmps62
   go_wp2_with fail
   go_end0
   exact ⟨rfl, HP.out⟩
end
end
section
theorem Kept.follow {F G : Nat -> Prop} {a b c : World} (h : Kept F a b) (k : Kept G b c) (hF : ∀ k, k < a.heap.size -> G k -> F k) : Kept F a c :=
 ⟨k.os.trans h.os, k.tape.trans h.tape, k.output.trans h.output, Nat.le_trans h.size k.size, fun i hi hn => (k.block i (Nat.lt_of_lt_of_le hi h.size) (fun hg => hn (hF i hi hg))).trans (h.block i hi hn)⟩
theorem number_err (w : World) (F : Nat -> Prop) (B g : Nat) (t : TypeId) (v : Value) (l : List UInt8) (a : Addr) (n width : Int) (hw : WrIs w F g (.iface t v) l) (he : ErrAt w B 0 a) :
    Calls Tryz.prog 106 #[.pointer (some ⟨g, 0, none⟩), .int .i64 n, .int .i64 width] w fun e w' => e = .returned (.tuple #[]) /\ w.grownBy w' none := by
 by_cases hbad : badNum n width = true
 · have hw' := hw
   obtain ⟨hBg, bA, bc, hb, hown, hF⟩ := hw'
   have hr := he.1
   rcases badNum_cases hbad with a1 | ⟨a1, a2⟩ | ⟨a1, a2, a3⟩ | ⟨k, m, rfl, rfl, a1, a2, a3, a4⟩
   all_goals
    clear hbad
    go_enter Tryz.func106, Tryz.ntmps106
    go_wp2_with fail
    go_region_with (go_at_call 125; refine (zen _ g 198 t v (.slice bA l.length bc) _ ?_).mono ?_; exact hb.drew; rintro e w1 ⟨rfl, rfl⟩)
    all_goals
     go_wp2
     first | go_end0 | refine bodyPost_ret (results_none rfl _ _ _) rfl ?_
     exact ⟨rfl, rfl, rfl, rfl, Nat.le_refl _, fun _ _ _ => rfl⟩
 · have hf : badNum n width = false := by simpa using hbad
   have h1 : 1 <= width /\ width <= 8 /\ 0 <= n /\ ((n / 2 ^ (8 * width.toNat)) != 0) = false := by
    unfold badNum at hf
    simp only [Bool.or_eq_false_iff, decide_eq_false_iff_not] at hf
    exact ⟨by omega, by omega, by omega, hf.2⟩
   obtain ⟨k, rfl⟩ := Int.eq_ofNat_of_zero_le (show 0 <= width by omega)
   obtain ⟨m, rfl⟩ := Int.eq_ofNat_of_zero_le h1.2.2.1
   have a1 : decide ((k : Int) < 1) = false := by simp; omega
   have a2 : decide ((8 : Int) < (k : Int)) = false := by simp; omega
   have a3 : decide ((m : Int) < 0) = false := by simp
   have a4 : (((m : Int) / 2 ^ (8 * k)) != 0) = false := by simpa using h1.2.2.2
   have h8 : k <= 8 := by omega
   clear hbad hf h1
   go_enter Tryz.func106, Tryz.ntmps106
   go_wp2_with fail
   go_loopw [6] (fun i wr => ∃ j : Nat, j <= k /\ i = .int .i64 ((j : Int) - 1) /\ w.grownBy wr none) (fun i _ => (intOf i + 1).toNat)
   case atStart => exact ⟨k, Nat.le_refl _, rfl, World.grownBy.refl _ _⟩
   case round =>
    obtain ⟨j, hj, hi, hg⟩ := hrel
    rcases j with _ | j
    · subst hi
      go_wp2_with fail
      go_end0
      exact ⟨rfl, hg⟩
    · have hi' := hi.trans (show Value.int .i64 (((j + 1 : Nat) : Int) - 1) = .int .i64 (j : Int) by congr 1; omega)
      clear hi
      subst hi'
      have hwr := (hw.grown hg)
      have Hwr := hQ_ hwr
      clear hwr
      go_wp2_with fail
      refine (write_err _ F g t v l _ 1 _ (Hwr.out.alloc _)).mono ?_
      rintro e w1 ⟨rfl, rfl⟩
      go_wp2_with fail
      go_roundw
      case rel => exact ⟨j, by omega, by go_num, za hg (World.grownBy_alloc _ _ _)⟩
      case measure => simp [intOf]
theorem fixed_err (w : World) (F : Nat -> Prop) (g : Nat) (t : TypeId) (v : Value) (l : List UInt8) (A : Option Addr) (n c : Nat) (hw : WrIs w F g (.iface t v) l) :
    Calls Tryz.prog 107 #[.pointer (some ⟨g, 0, none⟩), .slice A n c] w fun e w' => e = .returned (.tuple #[]) /\ w = w' := by
 go_enter Tryz.func107, Tryz.ntmps107
 go_wp2_with fail
 refine (write_err w F g t v l A n c hw).mono ?_
 rintro e w1 ⟨rfl, rfl⟩
 go_wp2_with fail
 go_end0
 exact ⟨rfl, rfl⟩
theorem blong_cases {m : Nat} {most : Int} (h : most < (m : Int) \/ 65535 < m) : decide (most < (m : Int)) = true \/ (decide (most < (m : Int)) = false /\ decide ((65535 : Int) < (m : Int)) = true) := by
 by_cases h1 : most < (m : Int)
 · exact .inl (by simpa using h1)
 · exact .inr ⟨by simpa using h1, by simp; omega⟩
theorem bytes_bad (w : World) (F : Nat -> Prop) (B g : Nat) (l : List UInt8) (a : Addr) (A : Option Addr) (m c : Nat) (most : Int) (hw : WrIs w F g .nilIface l) (he : ErrAt w B 0 a) (hlong : most < (m : Int) \/ 65535 < m) :
    Calls Tryz.prog 112 #[.pointer (some ⟨g, 0, none⟩), .slice A m c, .int .i64 most] w fun e w' => e = .returned (.tuple #[]) /\ WrIs w' F g (errV a) l /\ Kept (fun k => k = g) w w' := by
 have hr := he.1
 have hw' := hw
 obtain ⟨hBg, bA, bc, hb, hown, hF⟩ := hw'
 have Hw := hQ_ hw
 clear hw
 rcases blong_cases hlong with a1 | ⟨a1, a2⟩
 all_goals
  clear hlong
  go_enter Tryz.func112, Tryz.ntmps112
  go_wp2_with fail
  go_region_with (go_at_call 125; refine (zeo _ g 198 _ _ (.slice bA l.length bc) ?_).mono ?_; exact hb.drew; rintro e w1 ⟨rfl, rfl⟩)
  all_goals
   go_wp2
   first | go_end0 | refine bodyPost_ret (results_none rfl _ _ _) rfl ?_
   exact ⟨rfl, Hw.out.failed, Kept.of_grown (F := fun k => k = g) (grown_set (w := w) g (errV a)) (fun g' e => by injection e with e; exact e.symm)⟩
theorem bytes_err (w : World) (F : Nat -> Prop) (B g : Nat) (t : TypeId) (v : Value) (l : List UInt8) (a : Addr) (A : Option Addr) (m c : Nat) (most : Int) (hw : WrIs w F g (.iface t v) l) (he : ErrAt w B 0 a) :
    Calls Tryz.prog 112 #[.pointer (some ⟨g, 0, none⟩), .slice A m c, .int .i64 most] w fun e w' => e = .returned (.tuple #[]) /\ w.grownBy w' none := by
 have hr := he.1
 by_cases hlong : most < (m : Int) \/ 65535 < m
 · have hw' := hw
   obtain ⟨hBg, bA, bc, hb, hown, hF⟩ := hw'
   rcases blong_cases hlong with a1 | ⟨a1, a2⟩
   all_goals
    clear hlong
    go_enter Tryz.func112, Tryz.ntmps112
    go_wp2_with fail
    go_region_with (go_at_call 125; refine (zen _ g 198 t v (.slice bA l.length bc) _ ?_).mono ?_; exact hb.drew; rintro e w1 ⟨rfl, rfl⟩)
    all_goals
     go_wp2
     first | go_end0 | refine bodyPost_ret (results_none rfl _ _ _) rfl ?_
     exact ⟨rfl, rfl, rfl, rfl, Nat.le_refl _, fun _ _ _ => rfl⟩
 · have a1 : decide (most < (m : Int)) = false := by simp; omega
   have a2 : decide ((65535 : Int) < (m : Int)) = false := by simp; omega
   clear hlong
   go_enter Tryz.func112, Tryz.ntmps112
   go_wp2_with fail
   refine (number_err w F B g t v l a _ 2 hw he).mono ?_
   rintro e w1 ⟨rfl, k1⟩
   go_wp2_with fail
   refine (fixed_err w1 F g t v l A m c (hw.grown k1)).mono ?_
   rintro e w2 ⟨rfl, rfl⟩
   go_wp2_with fail
   go_end0
   exact ⟨rfl, k1⟩
/-! ### one op -/
end
section
abbrev newF (w0 : World) : Nat -> Prop := fun k => w0.heap.size <= k
structure WI (w0 : World) (E : Nat -> Addr) (g : Nat) (F : Nat -> Prop) (s : WSt) (w : World) : Prop where
 wr : WrIs w F g (evOf E s.1) s.2
 low : ∀ k, F k -> w0.heap.size <= k
 kept : Kept (newF w0) w0 w
structure WP (w0 : World) (E : Nat -> Addr) (g : Nat) (F : Nat -> Prop) (s : WSt) (w w' : World) : Prop where
 wi : WI w0 E g (upTo F w.heap.size w'.heap.size) s w'
 fine : Kept F w w'
section
variable {w0 w w' w'' : World} {E : Nat -> Addr} {g : Nat} {F : Nat -> Prop} {s s' : WSt}
theorem WI.size (h : WI w0 E g F s w) : w0.heap.size <= w.heap.size := h.kept.size
theorem WI.next (h : WI w0 E g F s w) (k : Kept F w w') : Kept (newF w0) w0 w' := h.kept.follow k fun j _ hj => h.low j hj
theorem WI.step (h : WI w0 E g F s w) (k : Kept F w w') (hw : WrIs w' (upTo F w.heap.size w'.heap.size) g (evOf E s'.1) s'.2) : WP w0 E g F s' w w' :=
 ⟨⟨hw, fun j hj => by
  rcases hj with h1 | ⟨h1, _⟩
  · exact h.low j h1
  · exact Nat.le_trans h.size h1, h.next k⟩, k⟩
theorem WrIs.upTo {F : Nat -> Prop} {v : Value} {l : List UInt8} (h : WrIs w F g v l) (a b : Nat) : WrIs w (upTo F a b) g v l := h.mono fun _ _ h => .inl h
theorem WI.grown (h : WI w0 E g F s w) (hg : w.grownBy w' none) : WP w0 E g F s w w' := h.step (Kept.of_grown hg fun _ e => by cases e) ((h.wr.grown hg).upTo _ _)
theorem WI.same (h : WI w0 E g F s w) : WP w0 E g F s w w := h.grown (World.grownBy.refl _ _)
theorem WP.trans (h : WP w0 E g F s w w') (k : WP w0 E g (upTo F w.heap.size w'.heap.size) s' w' w'') : WP w0 E g F s' w w'' := by
 have z1 := h.fine.size
 have z2 := k.fine.size
 refine ⟨⟨k.wi.wr.mono fun j _ hj => zez z1 z2 j hj, fun j hj => ?_, k.wi.kept⟩, h.fine.trans k.fine⟩
 rcases hj with h1 | ⟨h1, h2⟩
 · exact h.wi.low j (.inl h1)
 · by_cases h3 : j < w'.heap.size
   · exact h.wi.low j (.inr ⟨h1, h3⟩)
   · exact k.wi.low j (.inr ⟨by omega, h2⟩)
theorem WP.alloc (h : WP w0 E g F s w w') (o : Obj) : WP w0 E g F s w (w'.alloc o) := h.trans (h.wi.grown (gQ))
theorem WP.drew (h : WP w0 E g F s w w') : WP w0 E g F s w w'.drew := ⟨⟨h.wi.wr.drew, h.wi.low, h.wi.kept.drew⟩, h.fine.drew⟩
theorem WI.drew (h : WI w0 E g F s w) : WI w0 E g F s w.drew := ⟨h.wr.drew, h.low, h.kept.drew⟩
theorem WI.opened (h : WI w0 E g F s w) (hg : w.grownBy w' none) : WI w0 E g (fun k => F k /\ k < w.heap.size) s w' :=
 ⟨(h.wr.mono (G := fun k => F k /\ k < w.heap.size) fun _ hj hf => ⟨hf, hj⟩).grown hg, fun j hj => h.low j hj.1, (h.grown hg).wi.kept⟩
theorem WP.closed (hi : WI w0 E g F s' w) (hg : w.grownBy w' none) (k : WP w0 E g (fun k => F k /\ k < w.heap.size) s w' w'') : WP w0 E g F s w w'' := by
 have z1 := hg.size
 have z2 := k.fine.size
 refine ⟨⟨k.wi.wr.mono fun j _ hj => ?_, fun j hj => ?_, k.wi.kept⟩, (Kept.of_grown (F := F) hg fun _ e => by cases e).follow k.fine fun _ _ hj => hj.1⟩
 · rcases hj with ⟨h1, _⟩ | ⟨h1, h2⟩
   · exact .inl h1
   · exact .inr ⟨by omega, h2⟩
 · rcases hj with h1 | ⟨h1, h2⟩
   · by_cases h3 : j < w.heap.size
     · exact k.wi.low j (.inl ⟨h1, h3⟩)
     · exact Nat.le_trans hi.size (by omega)
   · exact Nat.le_trans hi.size h1
theorem WI.err {B k : Nat} {a : Addr} (h : WI w0 E g F s w) (he : ErrAt w0 B k a) (hB : B <= w0.heap.size) : ErrAt w B k a :=
 ⟨h.kept.cell he.1 (by have := he.2; show ¬ w0.heap.size <= k; omega), he.2⟩
theorem zc8 (x : List UInt8) (k : Nat) (l : List UInt8) : sFix x (k + 1, l) = (k + 1, l) := rfl
theorem zdl (j k : Nat) (l : List UInt8) : sFail j (k + 1, l) = (k + 1, l) := rfl
theorem u4 (n m : Int) (k : Nat) (l : List UInt8) : sNum n m (k + 1, l) = (k + 1, l) := by unfold sNum; split <;> rfl
theorem zem (h : WI w0 E g F s w) (k : Nat) :
    Calls Tryz.prog 125 #[.pointer (some ⟨g, 0, none⟩), errV (E k)] w fun e w' => e = .returned (.tuple #[]) /\ WP w0 E g F (sFail (k + 1) s) w w' := by
 obtain ⟨e0, l⟩ := s
 have hw := h.wr
 obtain ⟨hBg, bA, bc, hb, hown, hF⟩ := hw
 rcases e0 with _ | e0
 · refine (zeo w g 198 _ _ _ hb).mono ?_
   rintro e w1 ⟨rfl, rfl⟩
   refine ⟨rfl, h.step ((Kept.refl F w).set (.inl hBg) _) (WrIs.upTo (g := g) ?_ _ _)⟩
   exact h.wr.failed
 · rw [zdl]
   refine (zen w g 198 _ _ _ _ hb).mono ?_
   rintro e w1 ⟨rfl, rfl⟩
   exact ⟨rfl, h.same⟩
theorem uv (he : ErrAt w0 w0.heap.size 0 (E 0)) (h : WI w0 E g F s w) (hs : s.2.length <= 70368744177664) (n : Int) (k : Nat) :
    Calls Tryz.prog 106 #[.pointer (some ⟨g, 0, none⟩), .int .i64 n, .int .i64 (k : Int)] w fun e w' => e = .returned (.tuple #[]) /\ WP w0 E g F (sNum n (k : Int) s) w w' := by
 have he' := h.err he (Nat.le_refl _)
 obtain ⟨e0, l⟩ := s
 rcases e0 with _ | e0
 · cases hb : badNum n (k : Int)
   · have hr : sNum n (k : Int) (0, l) = (0, l ++ be k n.toNat) := by simp [sNum, hb, sFix]
     have hb2 : 1 <= k /\ k <= 8 /\ 0 <= n /\ n.toNat < 256 ^ k := by
      unfold badNum at hb
      simp only [Bool.or_eq_false_iff, decide_eq_false_iff_not, bne_eq_false_iff_eq] at hb
      obtain ⟨⟨⟨h1, h2⟩, h3⟩, h4⟩ := hb
      refine ⟨by omega, by omega, by omega, ?_⟩
      have e : n = (n.toNat : Int) := by omega
      rw [e, Int.toNat_natCast, zc7] at h4
      have h5 : n.toNat / 256 ^ k = 0 := by exact_mod_cast h4
      rcases Nat.div_eq_zero_iff.1 h5 with h6 | h6
      · exact absurd h6 (Nat.ne_of_gt (Nat.pow_pos (by omega)))
      · exact h6
     have e : n = (n.toNat : Int) := by omega
     rw [hr, e]
     refine (number_ok w F g l n.toNat k h.wr hb2.1 hb2.2.1 hb2.2.2.2 hs).mono ?_
     rintro e w1 ⟨rfl, h1, h2⟩
     exact ⟨rfl, h.step h2 h1⟩
   · have hr : sNum n (k : Int) (0, l) = (1, l) := by simp [sNum, hb, sFail]
     rw [hr]
     refine (number_bad w F w0.heap.size g l (E 0) n (k : Int) h.wr he' hb).mono ?_
     rintro e w1 ⟨rfl, h1, h2⟩
     exact ⟨rfl, h.step (Kept.of_grown h2 fun j hj => by cases hj; exact h.wr.1) (h1.upTo _ _)⟩
 · rw [u4]
   refine (number_err w F w0.heap.size g _ _ l (E 0) n (k : Int) h.wr he').mono ?_
   rintro e w1 ⟨rfl, h1⟩
   exact ⟨rfl, h.grown h1⟩
theorem fixed_st (h : WI w0 E g F s w) (hs : s.2.length <= 70368744177664) (A : Option Addr) (m c : Nat) (x : List UInt8) (hm : x.length = m) (hm2 : m <= 1000000) (hx : zt w A x) :
    Calls Tryz.prog 107 #[.pointer (some ⟨g, 0, none⟩), .slice A m c] w fun e w' => e = .returned (.tuple #[]) /\ WP w0 E g F (sFix x s) w w' := by
 obtain ⟨e0, l⟩ := s
 rcases e0 with _ | e0
 · refine (fixed_ok w F g l A m c x hm h.wr hx (by simp only at hs; omega)).mono ?_
   rintro e w1 ⟨rfl, h1, h2⟩
   exact ⟨rfl, h.step h2 h1⟩
 · rw [zc8]
   refine (fixed_err w F g _ _ l A m c h.wr).mono ?_
   rintro e w1 ⟨rfl, rfl⟩
   exact ⟨rfl, h.same⟩
theorem bytes_st (he : ErrAt w0 w0.heap.size 0 (E 0)) (h : WI w0 E g F s w) (hs : s.2.length <= 70368744177664) (A : Option Addr) (m c : Nat) (x : List UInt8) (hm : x.length = m) (hx : zt w A x) (hA : ∀ ad, A = some ad -> x ≠ [] -> ad.block < w0.heap.size) (most : Int) :
    Calls Tryz.prog 112 #[.pointer (some ⟨g, 0, none⟩), .slice A m c, .int .i64 most] w fun e w' => e = .returned (.tuple #[]) /\ WP w0 E g F (sBytes x most s) w w' := by
 have he' := h.err he (Nat.le_refl _)
 subst hm
 obtain ⟨e0, l⟩ := s
 by_cases hb : most < (x.length : Int) \/ 65535 < x.length
 · have hr : sBytes x most (e0, l) = sFail 1 (e0, l) := by unfold sBytes; rw [if_pos hb]
   rw [hr]
   rcases e0 with _ | e0
   · refine (bytes_bad w F w0.heap.size g l (E 0) A x.length c most h.wr he' hb).mono ?_
     rintro e w1 ⟨rfl, h1, h2⟩
     exact ⟨rfl, h.step (h2.mono fun j _ hj => by cases hj; exact h.wr.1) (h1.upTo _ _)⟩
   · refine (bytes_err w F w0.heap.size g _ _ l (E 0) A x.length c most h.wr he').mono ?_
     rintro e w1 ⟨rfl, h1⟩
     exact ⟨rfl, h.grown h1⟩
 · have hr : sBytes x most (e0, l) = sFix x (sNum (x.length : Int) 2 (e0, l)) := by unfold sBytes; rw [if_neg hb]
   rcases e0 with _ | e0
   · have h2 : x.length <= 65535 := by omega
     have hn : badNum (x.length : Int) 2 = false := by
      have h3 : (x.length : Int) / 2 ^ (8 * 2) = 0 := shr_zero (k := 2) (by omega)
      unfold badNum
      simp only [Bool.or_eq_false_iff, decide_eq_false_iff_not, bne_eq_false_iff_eq]
      exact ⟨⟨⟨by omega, by omega⟩, by omega⟩, h3⟩
     have hr2 : sBytes x most (0, l) = (0, l ++ (be 2 x.length ++ x)) := by rw [hr]; simp [sNum, hn, sFix]
     rw [hr2]
     refine (bytes_ok w F g l A x.length c most x rfl h.wr hx (fun ad e hne hf => by have := hA ad e hne; have := h.low _ hf; omega) hs (by omega) h2).mono ?_
     rintro e w1 ⟨rfl, h1, h2⟩
     exact ⟨rfl, h.step h2 h1⟩
   · rw [hr, u4, zc8]
     refine (bytes_err w F w0.heap.size g _ _ l (E 0) A x.length c most h.wr he').mono ?_
     rintro e w1 ⟨rfl, h1⟩
     exact ⟨rfl, h.grown h1⟩
theorem new_st (w : World) (E : Nat -> Addr) : Calls Tryz.prog 85 #[] w fun e w' => e = .returned (.pointer (some ⟨w.heap.size, 0, none⟩)) /\ WI w E w.heap.size (newF w) (0, []) w' :=
 (new_ok w).mono (by
  rintro e w1 ⟨rfl, rfl⟩
  exact ⟨rfl, ⟨WrIs.new w (Nat.le_refl _), fun _ h => h, (Kept.refl _ _).alloc _⟩⟩)
theorem done_st (h : WI w0 E g F s w) (hs : s.2.length <= 70368744177664) :
    Calls Tryz.prog 86 #[.pointer (some ⟨g, 0, none⟩)] w fun e w' => w0.grownBy w' none /\ ((s.1 = 0 /\ ∃ A c, e = .returned (.tuple #[.slice A s.2.length c, .nilIface]) /\ w'.ownsRow w0.heap.size 5 1 (.slice A s.2.length c) s.2.length (Lib.byteCells s.2)) \/
     (s.1 ≠ 0 /\ e = .returned (.tuple #[.slice none 0 0, evOf E s.1]))) := by
 have hz : ∀ w1, w.grownBy w1 none -> w0.grownBy w1 none := fun w1 hg => (h.grown hg).wi.kept.grownNone fun k hk hn => by show False; exact absurd hk (by simpa using hn)
 obtain ⟨e0, l⟩ := s
 rcases e0 with _ | e0
 · refine (done_ok w F g l h.wr (by simp only at hs; omega)).mono ?_
   rintro e w1 ⟨A, c, rfl, h1, h2⟩
   exact ⟨hz _ h2, .inl ⟨rfl, A, c, rfl, h1.mono h.size⟩⟩
 · refine (done_err w F g _ _ l h.wr).mono ?_
   rintro e w1 ⟨rfl, h1⟩
   exact ⟨hz _ h1, .inr ⟨by simp, rfl⟩⟩
end
end
end Go.Proofs.YtigafnbofmiknaaGreatDoor
