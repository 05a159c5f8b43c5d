/- PwI, PwT, PwU, PwE, PwR -/
import Derived.WalkKit
import Derived.Test.YtigafnbofmiknaaGreatDoorW20r
import Derived.DeepKeys
namespace Go.Proofs.YtigafnbofmiknaaGreatDoor
set_option maxRecDepth 100000
set_option maxHeartbeats 10000000
open Go.RowKit
section
theorem index_is (w : World) (A : Option Addr) (n c : Nat) (l : List Int) (x : Int) (hn : l.length = n) (h100 : n <= 100) (hz : IntsAt w A l) :
    Calls Tryz.prog 139 #[.slice A n c, .int .i64 x] w fun e w' => (∃ v : Int, e = .returned (.int .i64 v) /\ decide (0 <= v) = decide (x ∈ l)) /\ w = w' := by
 go_enter Tryz.func139, Tryz.ntmps139
 go_wp2
 go_loop [8] (fun i => ∃ k : Nat, k <= n /\ i = .int .i64 (k : Int) /\ x ∉ l.take k) (fun i => n - (intOf i).toNat)
 case atStart => exact ⟨0, Nat.zero_le _, rfl, by simp⟩
 case round =>
  obtain ⟨k, hk, rfl, hx⟩ := hrel
  have hx' := hQ_ hx
  clear hx
  by_cases hlt : k < n
  · have hlt' : decide ((k : Int) < (n : Int)) = true := by simp; omega
    have hkz : k < l.length := by omega
    obtain ⟨zb, zo, rfl, hc⟩ := hz.get (by intro e; rw [e] at hkz; simp at hkz)
    have hcell := hc k hkz
    clear hc
    obtain ⟨y, hy⟩ : ∃ y, l[k] = y := ⟨_, rfl⟩
    rw [hy] at hcell
    have Hy := hQ_ hy
    have Hn := hQ_ hn
    clear hy hn
    by_cases hxy : x = y
    · have d : (x == y) = true := by simpa using hxy
      have hm : x ∈ l := by rw [hxy, <- Hy.out]; exact List.getElem_mem _
      have Hm := hQ_ hm
      clear hm hxy
      go_wp2
      go_ret
      exact ⟨⟨_, rfl, by simp [Hm.out]⟩, rfl⟩
    · have d : (x == y) = false := by simpa using hxy
      have Hxy := hQ_ hxy
      clear hxy
      go_wp2
      go_round
      case rel =>
       refine ⟨k + 1, by omega, by go_num, ?_⟩
       rw [List.take_add_one, List.getElem?_eq_getElem hkz, Hy.out]
       simp only [Option.toList, List.mem_append, List.mem_singleton, not_or]
       exact ⟨hx'.out, Hxy.out⟩
      case measure => simp [intOf]; omega
  · have hlt' : decide ((k : Int) < (n : Int)) = false := by simp; omega
    obtain rfl : k = n := by omega
    have hm : x ∉ l := by have := hx'.out; rwa [<- hn, List.take_length] at this
    have Hm := hQ_ hm
    clear hm hn
    go_wp2
    go_ret
    exact ⟨⟨_, rfl, by simp [Hm.out]⟩, rfl⟩
theorem contains_is (w : World) (A : Option Addr) (n c : Nat) (l : List Int) (x : Int) (b : Bool) (hb : decide (x ∈ l) = b) (hn : l.length = n) (h100 : n <= 100) (hz : IntsAt w A l) :
    Calls Tryz.prog 119 #[.slice A n c, .int .i64 x] w fun e w' => e = .returned (.bool b) /\ w = w' := by
 go_enter Tryz.func119, Tryz.ntmps119
 have Hb := hQ_ hb
 clear hb
 go_wp2_with fail
 refine (index_is w A n c l x hn h100 hz).mono ?_
 rintro e w1 ⟨⟨v, rfl, hv⟩, rfl⟩
 rw [Hb.out] at hv
 go_wp2_with fail
 go_ret
 exact ⟨rfl, rfl⟩
theorem in_is (w : World) (A : Option Addr) (n c : Nat) (l : List Int) (x : Int) (b : Bool) (hb : decide (x ∈ l) = b) (hn : l.length = n) (h100 : n <= 100) (hz : IntsAt w A l) :
    Calls Tryz.prog 81 #[.slice A n c, .int .i64 x] w fun e w' => e = .returned (.bool b) /\ w = w' := by
 subst hb
 go_enter Tryz.func81, Tryz.ntmps81
 go_wp2
 go_loop [9] (fun i => ∃ k : Nat, k <= n /\ i = .int .i64 (k : Int) /\ x ∉ l.take k) (fun i => n - (intOf i).toNat)
 case atStart => exact ⟨0, Nat.zero_le _, rfl, by simp⟩
 case round =>
  obtain ⟨k, hk, rfl, hx⟩ := hrel
  have hx' := hQ_ hx
  clear hx
  by_cases hlt : k < n
  · have hlt' : decide ((k : Int) < (n : Int)) = true := by simp; omega
    have hkz : k < l.length := by omega
    obtain ⟨zb, zo, rfl, hc⟩ := hz.get (by intro e; rw [e] at hkz; simp at hkz)
    have hcell := hc k hkz
    clear hc
    obtain ⟨y, hy⟩ : ∃ y, l[k] = y := ⟨_, rfl⟩
    rw [hy] at hcell
    have Hy := hQ_ hy
    have Hn := hQ_ hn
    clear hy hn
    by_cases hxy : y = x
    · have d : (y == x) = true := by simpa using hxy
      have hm : x ∈ l := by rw [<- hxy, <- Hy.out]; exact List.getElem_mem _
      have Hm := hQ_ hm
      clear hm hxy
      go_wp2
      go_ret
      exact ⟨by rw [decide_eq_true Hm.out]; rfl, rfl⟩
    · have d : (y == x) = false := by simpa using hxy
      have Hxy := hQ_ hxy
      clear hxy
      go_wp2
      go_round
      case rel =>
       refine ⟨k + 1, by omega, by go_num, ?_⟩
       rw [List.take_add_one, List.getElem?_eq_getElem hkz, Hy.out]
       simp only [Option.toList, List.mem_append, List.mem_singleton, not_or]
       exact ⟨hx'.out, fun e => Hxy.out e.symm⟩
      case measure => simp [intOf]; omega
  · have hlt' : decide ((k : Int) < (n : Int)) = false := by simp; omega
    obtain rfl : k = n := by omega
    have hm : x ∉ l := by have := hx'.out; rwa [<- hn, List.take_length] at this
    have Hm := hQ_ hm
    clear hm hn
    go_wp2
    go_ret
    exact ⟨by rw [decide_eq_false Hm.out]; rfl, rfl⟩
end
section
theorem VdsAt.above {w w' : World} {A : Option Addr} {V : List Vd} (h : VdsAt w A V) (hk : Below w.heap.size w w') : VdsAt w' A V := fun hne => by
 obtain ⟨b, off, rfl, hc⟩ := h hne
 refine ⟨b, off, rfl, fun k hk' j v hv => ?_⟩
 have h1 := hc k hk' j v hv
 exact (hk.cell (World.block_lt_of_cell? w _ h1)).trans h1
theorem VdsAt.blk {w : World} {A : Option Addr} {V : List Vd} (h : VdsAt w A V) : ∀ a, A = some a -> V ≠ [] -> a.block < w.heap.size := fun a ha hne => by
 obtain ⟨b, off, rfl, hc⟩ := h hne
 cases ha
 have h0 := List.length_pos_iff.2 hne
 have h1 := hc 0 h0 V[0].key.length (.int .i64 V[0].p) (by simp [Vd.cells])
 have h2 := World.block_lt_of_cell? w _ h1
 exact h2
theorem IntsAt.above {w w' : World} {A : Option Addr} {l : List Int} (h : IntsAt w A l) (hk : Below w.heap.size w w') : IntsAt w' A l := fun hl => by
 obtain ⟨ad, rfl, hc⟩ := h hl
 exact ⟨ad, rfl, fun j hj => (hk.cell (World.block_lt_of_cell? w _ (hc j hj))).trans (hc j hj)⟩
theorem IntsAt.blk {w : World} {A : Option Addr} {l : List Int} (h : IntsAt w A l) : ∀ a, A = some a -> l ≠ [] -> a.block < w.heap.size := fun a ha hne => by
 obtain ⟨b, off, rfl, hc⟩ := h.get hne
 cases ha
 have h2 := World.block_lt_of_cell? w _ (hc 0 (List.length_pos_iff.2 hne))
 exact h2
theorem ErrAt.above {w w' : World} {B k : Nat} {a : Addr} (h : ErrAt w B k a) (hk : Below w.heap.size w w') (hB : B <= w.heap.size) : ErrAt w' B k a := h.below hk hB
theorem z9 {w w' : World} (h : w.grownBy w' none) : Below w.heap.size w w' := ua h (Nat.le_refl _) (fun _ e => by cases e)
theorem u2 {a b c : World} (h : Below a.heap.size a b) (k : Below b.heap.size b c) : Below a.heap.size a c := h.trans (k.mono h.size)
theorem zcs (M : Int) (hM : 0 <= M) : ∀ zs : List Int, (∀ z ∈ zs, 1 <= z /\ z <= M) -> (zs.length : Int) <= zs.sum /\ zs.sum <= zs.length * M
 | [], _ => by simp
 | z :: zs, h => by
  have h1 := h z (by simp)
  have h2 := zcs M hM zs fun x hx => h x (by simp [hx])
  have e : ((zs.length + 1 : Nat) : Int) * M = zs.length * M + M := by rw [Int.natCast_add, Int.add_mul]; simp
  rw [List.sum_cons, List.length_cons, e]
  omega
theorem foldW : ∀ (zs : List Int) (s : Int), (∀ z ∈ zs, 1 <= z /\ z <= 1099511627776) -> 0 <= s -> s + zs.length * 1099511627776 <= 9223372036854775807 -> zs.foldl (fun s x => wrap64 (s + x)) s = s + zs.sum
 | [], s, _, _, _ => by simp
 | z :: zs, s, h, h0, hs => by
  have h1 := h z (by simp)
  rw [List.length_cons] at hs
  rw [List.foldl_cons, w64 _ ⟨by omega, by omega⟩, foldW zs (s + z) (fun x hx => h x (by simp [hx])) (by omega) (by omega), List.sum_cons]
  omega
theorem zc5 (zs : List Int) (h : ∀ z ∈ zs, 1 <= z /\ z <= 1099511627776) (hl : zs.length < 1000) : sumW zs = zs.sum := by
 rw [sumW, foldW zs 0 h (by omega) (by omega)]; omega
def yc (V : List Vd) : List Int := V.map Vd.p
theorem u9 {V : List Vd} (hr : rightS V = true) : V.length <= 7 /\ 1 <= V.length /\ ∀ z ∈ yc V, 1 <= z /\ z <= 1099511627776 := by
 obtain ⟨⟨h1, h2⟩, h3⟩ := (ud V).1 hr
 refine ⟨h2, h1, fun z hz => ?_⟩
 obtain ⟨x, hx, rfl⟩ := List.mem_map.1 hz
 obtain ⟨k, hk, rfl⟩ := List.getElem_of_mem hx
 have := h3 k hk
 exact ⟨this.1, this.2.1⟩
def totalS (V : List Vd) : Int := if rightS V then (yc V).sum else 0
def zbo (V : List Vd) : Int := if rightS V then 2 * (yc V).sum / 3 + 1 else 0
theorem total_bound {V : List Vd} (hr : rightS V = true) : 1 <= (yc V).sum /\ (yc V).sum <= 7696581394432 := by
 obtain ⟨h1, h2, h3⟩ := u9 hr
 have hl : (yc V).length = V.length := by simp [yc]
 have := zcs 1099511627776 (by omega) (yc V) h3
 rw [hl] at this
 omega
theorem total_is (w : World) (A : Option Addr) (c B : Nat) (V : List Vd) (es : Addr) (hV : VdsAt w A V) (ok : keysOk V) (hl : V.length < 1000) (hB : B <= w.heap.size) (he : ErrAt w B 10 es) :
    Calls Tryz.prog 122 #[.slice A V.length c] w fun e w' => e = .returned (.int .i64 (totalS V)) /\ Below w.heap.size w w' := by
 have HV := hQ_ (aQ hV (aQ ok (aQ hl (aQ hB he))))
 clear hV ok hl hB he
 cases hr : rightS V with
 | false =>
  rw [show totalS V = 0 by simp [totalS, hr]]
  have HR := hQ_ hr
  clear hr
  go_enter Tryz.func122, Tryz.ntmps122
  go_wp2_with fail
  refine (u6 w A c B V es HV.out.1 HV.out.2.1 HV.out.2.2.1 HV.out.2.2.2.2).mono ?_
  rintro e w1 ⟨hk1, ⟨h, _⟩ | ⟨_, rfl⟩⟩
  · rw [HR.out] at h; cases h
  · have HK := hQ_ hk1
    clear hk1
    go_wp2_with fail
    go_ret
    exact ⟨rfl, z9 HK.out⟩
 | true =>
  obtain ⟨t, ht⟩ : ∃ t, t = totalS V := ⟨_, rfl⟩
  have hts : t = sumW (yc V) := by
   rw [ht, totalS, if_pos hr, zc5 _ (u9 hr).2.2 (by have := (u9 hr).1; simp [yc]; omega)]
  rw [<- ht]
  have HR := hQ_ (aQ hr hts)
  clear hr ht hts
  go_enter Tryz.func122, Tryz.ntmps122
  go_wp2_with fail
  refine (u6 w A c B V es HV.out.1 HV.out.2.1 HV.out.2.2.1 HV.out.2.2.2.2).mono ?_
  rintro e w1 ⟨hk1, ⟨_, rfl⟩ | ⟨h, _⟩⟩
  · have HK := hQ_ hk1
    clear hk1
    go_wp2_with fail
    refine (everyone_is _ A V.length c w1 rfl).mono ?_
    rintro e w2 ⟨rfl, rfl⟩
    go_wp2_with fail
    have hV2 := (HV.out.1.grown HK.out)
    refine (add_is _ _ _ (enters_of Tryz.func148 (by kernel_rfl) rfl) (yc V) V.length
     (everyone_stops 4 _ (by omega) A c V HV.out.2.1 HV.out.2.2.1 _ ((hV2.grown (gQ)).grown (gQ)) (fun a ha hne => by have := hV2.blk a ha hne; simp; omega) (by simp) w1.heap.size (by simp) ((Boxed.new w1 22 (.slice A V.length c)).alloc _).cell)).mono ?_
    rintro e w3 ⟨rfl, hk3⟩
    rw [<- HR.out.2]
    have HK3 := hQ_ hk3
    clear hk3 hV2
    go_wp2_with fail
    go_ret
    refine ⟨rfl, u2 (u2 (z9 HK.out) (z9 (gQ))) HK3.out⟩
  · rw [HR.out.1] at h; cases h
theorem quorum_is (w : World) (A : Option Addr) (c B : Nat) (V : List Vd) (es : Addr) (hV : VdsAt w A V) (ok : keysOk V) (hl : V.length < 1000) (hB : B <= w.heap.size) (he : ErrAt w B 10 es) :
    Calls Tryz.prog 98 #[.slice A V.length c] w fun e w' => e = .returned (.int .i64 (zbo V)) /\ Below w.heap.size w w' := by
 have HV := hQ_ (aQ hV (aQ ok (aQ hl (aQ hB he))))
 clear hV ok hl hB he
 cases hr : rightS V with
 | false =>
  rw [show zbo V = 0 by simp [zbo, hr]]
  have HR := hQ_ hr
  clear hr
  go_enter Tryz.func98, Tryz.ntmps98
  go_wp2_with fail
  refine (u6 w A c B V es HV.out.1 HV.out.2.1 HV.out.2.2.1 HV.out.2.2.2.2).mono ?_
  rintro e w1 ⟨hk1, ⟨h, _⟩ | ⟨_, rfl⟩⟩
  · rw [HR.out] at h; cases h
  · have HK := hQ_ hk1
    clear hk1
    go_wp2_with fail
    go_ret
    exact ⟨rfl, z9 HK.out⟩
 | true =>
  obtain ⟨t, ht⟩ : ∃ t, t = totalS V := ⟨_, rfl⟩
  have hb := total_bound hr
  have hts : t = (yc V).sum := by rw [ht, totalS, if_pos hr]
  rw [<- hts] at hb
  have s1 : wrap64 (2 * t) = 2 * t := w64 _ ⟨by omega, by omega⟩
  have s2 : (2 * t).tdiv 3 = 2 * t / 3 := Int.tdiv_eq_ediv_of_nonneg (by omega)
  have s3 : wrap64 (2 * t / 3 + 1) = 2 * t / 3 + 1 := w64 _ ⟨by omega, by omega⟩
  have s4 : wrap64 (2 * t / 3) = 2 * t / 3 := w64 _ ⟨by omega, by omega⟩
  have hq : zbo V = 2 * t / 3 + 1 := by rw [zbo, if_pos hr, hts]
  rw [hq]
  have HR := hQ_ (aQ hr ht)
  clear hr ht hts hq hb
  go_enter Tryz.func98, Tryz.ntmps98
  go_wp2_with fail
  refine (u6 w A c B V es HV.out.1 HV.out.2.1 HV.out.2.2.1 HV.out.2.2.2.2).mono ?_
  rintro e w1 ⟨hk1, ⟨_, rfl⟩ | ⟨h, _⟩⟩
  · have HK := hQ_ hk1
    clear hk1
    go_wp2_with fail
    refine (total_is w1 A c B V es (HV.out.1.grown HK.out) HV.out.2.1 HV.out.2.2.1 (Nat.le_trans HV.out.2.2.2.1 HK.out.size) (HV.out.2.2.2.2.above (z9 HK.out) HV.out.2.2.2.1)).mono ?_
    rintro e w3 ⟨rfl, hk3⟩
    rw [<- HR.out.2]
    have HK3 := hQ_ hk3
    clear hk3
    go_wp2_with fail
    go_ret
    refine ⟨by simp [s1, s3, s4], u2 (z9 HK.out) HK3.out⟩
  · rw [HR.out.1] at h; cases h
end
section
def inR (V : List Vd) (who : List Int) : Bool := who.all fun i => decide (0 <= i) && decide (i < (V.length : Int))
def yf (V : List Vd) (who : List Int) : Nat := if rightS V then if inR V who then if decide who.Nodup then 0 else 3 else 2 else 1
def sumVal (V : List Vd) (who : List Int) : Int := if yf V who = 0 then (yd V who).sum else 0
def codeV (es er et : Addr) : Nat -> Value
 | 0 => .nilIface
 | 1 => errV es
 | 2 => errV er
 | _ => errV et
theorem zb7 {V : List Vd} {who : List Int} : inR V who = true ↔ ∀ i ∈ who, 0 <= i /\ i < (V.length : Int) := by
 simp [inR]
theorem nodup_snoc {l : List Int} {k : Nat} (h : k < l.length) (hn : (l.take k).Nodup) (hx : l[k] ∉ l.take k) : (l.take (k + 1)).Nodup := by
 rw [<- List.take_append_getElem h, List.nodup_append]
 refine ⟨hn, by simp, fun a ha b hb => ?_⟩
 obtain rfl : b = l[k] := by simpa using hb
 exact fun e => hx (e ▸ ha)
theorem not_nodup {l : List Int} {k : Nat} (h : k < l.length) (hx : l[k] ∈ l.take k) : ¬ l.Nodup := fun hn => by
 have h1 : (l.take (k + 1)).Nodup := hn.sublist (List.take_sublist _ _)
 rw [<- List.take_append_getElem h, List.nodup_append] at h1
 exact h1.2.2 _ hx _ (by simp) rfl
theorem zaz {V : List Vd} {who : List Int} (hr : rightS V = true) (hi : inR V who = true) : ∀ z ∈ yd V who, 1 <= z /\ z <= 1099511627776 := fun z hz => by
 obtain ⟨i, hi', rfl⟩ := List.mem_map.1 hz
 obtain ⟨h1, h2⟩ := zb7.1 hi i hi'
 have hk : i.toNat < V.length := by omega
 have := ((ud V).1 hr).2 _ hk
 simp only [List.getElem?_eq_getElem hk, Option.map_some, Option.getD_some]
 exact ⟨this.1, this.2.1⟩
theorem IntsAt.take {w : World} {A : Option Addr} {l : List Int} (h : IntsAt w A l) (k : Nat) : IntsAt w A (l.take k) := fun hl => by
 obtain ⟨ad, rfl, hc⟩ := h (by rintro rfl; simp at hl)
 exact ⟨ad, rfl, fun j hj => by rw [hc j (by simp at hj; omega)]; simp⟩
theorem sum_is (w : World) (A A2 : Option Addr) (c c2 B : Nat) (V : List Vd) (who : List Int) (es er et : Addr) (hV : VdsAt w A V) (ok : keysOk V) (hl : V.length < 1000) (hU : IntsAt w A2 who) (hwl : who.length <= 100) (hc2 : who.length <= c2) (hB : B <= w.heap.size) (he : ErrAt w B 10 es) (her : ErrAt w B 0 er) (het : ErrAt w B 16 et) :
    Calls Tryz.prog 97 #[.slice A V.length c, .slice A2 who.length c2] w fun e w' => e = .returned (.tuple #[.int .i64 (sumVal V who), codeV es er et (yf V who)]) /\ Below w.heap.size w w' := by
 have HV := hQ_ (aQ hV (aQ ok (aQ hl (aQ hB (aQ he (aQ her het))))))
 have HU := hQ_ (aQ hU (aQ hwl hc2))
 clear hV ok hB he her het hU
 cases hr : rightS V with
 | false =>
  have h1 : yf V who = 1 := by simp [yf, hr]
  rw [show sumVal V who = 0 by simp [sumVal, h1], h1, codeV]
  have HR := hQ_ hr
  clear hr h1 hl hwl
  go_enter Tryz.func97, Tryz.ntmps97
  go_wp2_with fail
  refine (u6 w A c B V es HV.out.1 HV.out.2.1 HV.out.2.2.1 HV.out.2.2.2.2.1).mono ?_
  rintro e w1 ⟨hk1, ⟨h, _⟩ | ⟨_, rfl⟩⟩
  · rw [HR.out] at h; cases h
  · have HK := hQ_ hk1
    clear hk1
    go_wp2_with fail
    go_ret2
    exact ⟨rfl, z9 HK.out⟩
 | true =>
  have HR := hQ_ hr
  clear hr
  go_enter Tryz.func97, Tryz.ntmps97
  go_wp2_with fail
  refine (u6 w A c B V es HV.out.1 HV.out.2.1 HV.out.2.2.1 HV.out.2.2.2.2.1).mono ?_
  rintro e w1 ⟨hk1, ⟨_, rfl⟩ | ⟨h, _⟩⟩
  · have hU1 := HU.out.1.above (z9 hk1)
    have e2 := (HV.out.2.2.2.2.2.1.grown hk1 (fun _ e => by cases e)).1
    have e3 := (HV.out.2.2.2.2.2.2.grown hk1 (fun _ e => by cases e)).1
    have HK := hQ_ hk1
    clear hk1
    go_wp2_with fail
    go_loop [18] (fun i => ∃ k : Nat, k <= who.length /\ i = .int .i64 (k : Int) /\ (∀ j (h : j < who.length), j < k -> 0 <= who[j] /\ who[j] < (V.length : Int))) (fun i => who.length - (intOf i).toNat)
    case atStart => exact ⟨0, Nat.zero_le _, rfl, fun j _ h => absurd h (by omega)⟩
    case round =>
     obtain ⟨k, hkl, hi, hno⟩ := hrel
     obtain ⟨I, hI⟩ : ∃ I : Int, I = (k : Int) := ⟨_, rfl⟩
     rw [<- hI] at hi
     subst hi
     have HN := hQ_ (aQ hno (aQ hkl hI))
     have HU1 := hQ_ hU1
     by_cases hlt : k < who.length
     · have d1 : decide (I < (who.length : Int)) = true := by simp; omega
       have hne : who ≠ [] := by rintro rfl; simp at hlt
       have hIV : I < (who.length : Int) := by omega
       have hI0 : 0 <= I /\ I < 1000 := by omega
       obtain ⟨b2, off2, rfl, hcs⟩ := hU1.get hne
       obtain ⟨z, hz⟩ : ∃ z, z = who[k] := ⟨_, rfl⟩
       have c1 : w1.cell? ⟨b2, off2 + I.toNat, none⟩ = some (.int .i64 z) := by rw [show I.toNat = k by omega, hz]; exact hcs k hlt
       have hbad := hQ_ (show ¬ (0 <= z /\ z < (V.length : Int)) -> yf V who = 2 from fun h => by
        have h2 : inR V who = false := by
         cases h3 : inR V who with
         | false => rfl
         | true => exact absurd (zb7.1 h3 z (by rw [hz]; exact List.getElem_mem hlt)) h
        simp [yf, HR.out, h2])
       have HZ := hQ_ (show ∃ h : k < who.length, z = who[k] from ⟨hlt, hz⟩)
       clear hno hkl hI hne hcs hz hU1 hlt hwl hc2 hl
       by_cases z1 : z < 0
       · have z1' : decide (z < 0) = true := by simpa using z1
         have Hb := hQ_ (hbad.out (by omega))
         clear z1
         go_wp2_with fail
         go_quiet (fail)
         go_wp2_with fail
         go_ret2
         exact ⟨by rw [show sumVal V who = 0 by simp [sumVal, Hb.out], Hb.out]; rfl, zca (z9 HK.out) _⟩
       · have z1' : decide (z < 0) = false := by simpa using z1
         by_cases z2 : (V.length : Int) <= z
         · have z2' : decide ((V.length : Int) <= z) = true := by simpa using z2
           have Hb := hQ_ (hbad.out (by omega))
           clear z1 z2
           go_wp2_with fail
           go_quiet (fail)
           go_wp2_with fail
           go_ret2
           exact ⟨by rw [show sumVal V who = 0 by simp [sumVal, Hb.out], Hb.out]; rfl, zca (z9 HK.out) _⟩
         · have z2' : decide ((V.length : Int) <= z) = false := by simpa using z2
           have HZ1 := hQ_ (aQ z1 z2)
           clear z1 z2
           go_wp2_with fail
           go_round
           case rel =>
            obtain ⟨n1, n2, n3⟩ := HN.out
            obtain ⟨n5, n4⟩ := HZ.out
            refine ⟨k + 1, by omega, by rw [n3]; rfl, fun j hj hjk => ?_⟩
            by_cases hjk' : j < k
            · exact n1 j hj hjk'
            · obtain rfl : j = k := by omega
              rw [<- n4]; have := HZ1.out; omega
           case measure => obtain ⟨n1, n2, n3⟩ := HN.out; obtain ⟨n5, n4⟩ := HZ.out; simp [intOf]; omega
     · have d1 : decide (I < (who.length : Int)) = false := by simp; omega
       have hin : inR V who = true := zb7.2 fun i hi => by
        obtain ⟨j, hj, rfl⟩ := List.getElem_of_mem hi
        exact hno j hj (by omega)
       have HI := hQ_ hin
       clear hno hkl hI hlt hin hU1 HN hl
       go_wp2_with fail
       clear d1
       go_loop [34] (fun i => ∃ k : Nat, k <= who.length /\ i = .int .i64 (k : Int) /\ (who.take k).Nodup) (fun i => who.length - (intOf i).toNat)
       case atStart => exact ⟨0, Nat.zero_le _, rfl, by simp⟩
       case round =>
        obtain ⟨k, hkl, hi, hno⟩ := hrel
        obtain ⟨I, hI⟩ : ∃ I : Int, I = (k : Int) := ⟨_, rfl⟩
        rw [<- hI] at hi
        subst hi
        have HN := hQ_ (aQ hno (aQ hkl hI))
        by_cases hlt : k < who.length
        · have d1 : decide (I < (who.length : Int)) = true := by simp; omega
          have hne : who ≠ [] := by rintro rfl; simp at hlt
          have hIV : I < (who.length : Int) := by omega
          have hI0 : 0 <= I /\ I < 1000 := by omega
          have hIc : I <= (c2 : Int) := by omega
          obtain ⟨b2, off2, rfl, hcs⟩ := HU1.out.get hne
          obtain ⟨z, hz⟩ : ∃ z, z = who[k] := ⟨_, rfl⟩
          have c1 : w1.cell? ⟨b2, off2 + I.toNat, none⟩ = some (.int .i64 z) := by rw [show I.toNat = k by omega, hz]; exact hcs k hlt
          have HZ := hQ_ (show ∃ h : k < who.length, z = who[k] from ⟨hlt, hz⟩)
          have HWL := hQ_ hwl
          clear hno hkl hI hne hcs hz hlt hwl hc2
          go_wp2_with fail
          obtain ⟨bb, hbb⟩ : ∃ bb, decide (z ∈ who.take k) = bb := ⟨_, rfl⟩
          have HBB := hQ_ hbb
          refine (contains_is w1 (some ⟨b2, off2, none⟩) I.toNat c2 (who.take k) z bb hbb (by obtain ⟨n1, n2, n3⟩ := HN.out; obtain ⟨n4, n5⟩ := HZ.out; simp; omega) (by have := HWL.out; omega) (HU1.out.take k)).mono ?_
          rintro e w2 ⟨rfl, rfl⟩
          clear hbb
          cases bb with
          | true =>
           have Hb := hQ_ (show yf V who = 3 by
            obtain ⟨n4, n5⟩ := HZ.out
            have h1 : z ∈ who.take k := by simpa using HBB.out
            rw [n5] at h1
            simp [yf, HR.out, HI.out, not_nodup n4 h1])
           go_wp2_with fail
           go_quiet (fail)
           go_wp2_with fail
           go_ret2
           exact ⟨by rw [show sumVal V who = 0 by simp [sumVal, Hb.out], Hb.out]; rfl, zca (z9 HK.out) _⟩
          | false =>
           go_wp2_with fail
           go_round
           case rel =>
            obtain ⟨n1, n2, n3⟩ := HN.out
            obtain ⟨n4, n5⟩ := HZ.out
            exact ⟨k + 1, by omega, by rw [n3]; rfl, nodup_snoc n4 n1 (by rw [<- n5]; simpa using HBB.out)⟩
           case measure => obtain ⟨n1, n2, n3⟩ := HN.out; obtain ⟨n4, n5⟩ := HZ.out; simp [intOf]; omega
        · have d1 : decide (I < (who.length : Int)) = false := by simp; omega
          obtain rfl : k = who.length := by omega
          rw [List.take_length] at hno
          have hc0 : yf V who = 0 := by simp [yf, HR.out, HI.out, hno]
          have hv0 : sumVal V who = sumW (yd V who) := by
           rw [sumVal, if_pos hc0, zc5 _ (zaz HR.out HI.out) (by simp [yd]; omega)]
          have HC := hQ_ (aQ hc0 hv0)
          have HWL := hQ_ hwl
          clear hno hkl hI hlt hc0 hv0 hwl hc2 HN e2 e3
          go_wp2_with fail
          refine (those_is A A2 V.length c who.length c2 w1).mono ?_
          rintro e w2 ⟨rfl, rfl⟩
          go_wp2_with fail
          have hV2 := (HV.out.1.grown HK.out)
          have hU2 := HU1.out
          have g2 : w1.grownBy ((w1.alloc (.cells #[.slice A V.length c] 22)).alloc (.cells #[.slice A2 who.length c2] 102)) none := za (gQ) (gQ)
          have g3 : w1.grownBy (((w1.alloc (.cells #[.slice A V.length c] 22)).alloc (.cells #[.slice A2 who.length c2] 102)).alloc (.cells #[.int .i64 0] 3)) none := za g2 (gQ)
          have b1 := ((Boxed.new w1 22 (.slice A V.length c)).alloc (.cells #[.slice A2 who.length c2] 102)).alloc (.cells #[.int .i64 0] 3)
          have b2 := (Boxed.new (w1.alloc (.cells #[.slice A V.length c] 22)) 102 (.slice A2 who.length c2)).alloc (.cells #[.int .i64 0] 3)
          rw [World.size_alloc] at b2
          refine (add_is _ _ _ (enters_of Tryz.func140 (by kernel_rfl) rfl) (yd V who) who.length
           (those_stops 4 _ (by omega) A A2 c c2 V who HV.out.2.1 HV.out.2.2.1 (by have := HWL.out; omega) (zb7.1 HI.out) _ (hV2.grown g3) (fun a ha hne => by have := hV2.blk a ha hne; simp; omega)
            (hU2.above (z9 g3)) (fun a ha hne => by have := hU2.blk a ha hne; simp; omega) (by simp) (w1.heap.size + 1) w1.heap.size (by simp) (by simp; omega) b2.cell b1.cell)).mono ?_
          rintro e w3 ⟨rfl, hk3⟩
          rw [<- HC.out.2]
          have HK3 := hQ_ hk3
          have G2 := hQ_ g2
          clear hk3 hV2 hU2 g2 g3 b1 b2
          go_wp2_with fail
          go_ret2
          refine ⟨by rw [HC.out.1]; rfl, u2 (u2 (z9 HK.out) (z9 G2.out)) HK3.out⟩
  · rw [HR.out] at h; cases h
theorem sumVal_bound {V : List Vd} {who : List Int} (hwl : who.length <= 100) : 0 <= sumVal V who /\ sumVal V who <= 109951162777600 := by
 unfold sumVal
 by_cases h : yf V who = 0
 · rw [if_pos h]
   have hr : rightS V = true := by
    cases h1 : rightS V with
    | true => rfl
    | false => simp [yf, h1] at h
   have hi : inR V who = true := by
    cases h1 : inR V who with
    | true => rfl
    | false => simp [yf, hr, h1] at h
   have hb := zcs 1099511627776 (by omega) _ (zaz hr hi)
   have hl : (yd V who).length = who.length := by simp [yd]
   rw [hl] at hb
   omega
 · rw [if_neg h]; omega
theorem codeV_err {es er et : Addr} {k : Nat} (h : k ≠ 0) : ∃ a, codeV es er et k = errV a := by
 match k with
 | 0 => exact absurd rfl h
 | 1 => exact ⟨_, rfl⟩
 | 2 => exact ⟨_, rfl⟩
 | k + 3 => exact ⟨_, rfl⟩
def u1 (V : List Vd) (who : List Int) : Bool := decide (yf V who = 0) && decide (zbo V <= sumVal V who)
theorem enough_is (w : World) (A A2 : Option Addr) (c c2 B : Nat) (V : List Vd) (who : List Int) (es er et : Addr) (hV : VdsAt w A V) (ok : keysOk V) (hl : V.length < 1000) (hU : IntsAt w A2 who) (hwl : who.length <= 100) (hc2 : who.length <= c2) (hB : B <= w.heap.size) (he : ErrAt w B 10 es) (her : ErrAt w B 0 er) (het : ErrAt w B 16 et) :
    Calls Tryz.prog 76 #[.slice A V.length c, .slice A2 who.length c2] w fun e w' => e = .returned (.bool (u1 V who)) /\ Below w.heap.size w w' := by
 have HV := hQ_ (aQ hV (aQ ok (aQ hl (aQ hB (aQ he (aQ her het))))))
 have HU := hQ_ (aQ hU (aQ hwl hc2))
 clear hV ok hB he her het hU hl hwl hc2
 go_enter Tryz.func76, Tryz.ntmps76
 go_wp2_with fail
 refine (sum_is w A A2 c c2 B V who es er et HV.out.1 HV.out.2.1 HV.out.2.2.1 HU.out.1 HU.out.2.1 HU.out.2.2 HV.out.2.2.2.1 HV.out.2.2.2.2.1 HV.out.2.2.2.2.2.1 HV.out.2.2.2.2.2.2).mono ?_
 rintro e w1 ⟨rfl, hk1⟩
 have HK := hQ_ hk1
 clear hk1
 obtain ⟨s, hs⟩ : ∃ s, s = sumVal V who := ⟨_, rfl⟩
 rw [<- hs]
 by_cases h0 : yf V who = 0
 · rw [h0, codeV]
   have HS := hQ_ (aQ hs h0)
   clear hs h0
   go_wp2_with fail
   refine (quorum_is w1 A c B V es (HV.out.1.above HK.out) HV.out.2.1 HV.out.2.2.1 (Nat.le_trans HV.out.2.2.2.1 HK.out.size) (HV.out.2.2.2.2.1.above HK.out HV.out.2.2.2.1)).mono ?_
   rintro e w3 ⟨rfl, hk3⟩
   obtain ⟨q, hq⟩ : ∃ q, q = zbo V := ⟨_, rfl⟩
   rw [<- hq]
   have HK3 := hQ_ (aQ hk3 hq)
   clear hk3 hq
   go_wp2_with fail
   go_ret
   refine ⟨by rw [u1, HS.out.2, <- HS.out.1, <- HK3.out.2]; rfl, u2 HK.out HK3.out.1⟩
 · obtain ⟨a, ha⟩ := codeV_err (es := es) (er := er) (et := et) h0
   rw [ha]
   have HS := hQ_ h0
   clear hs h0 ha
   go_wp2_with fail
   go_ret
   refine ⟨by simp [u1, HS.out], HK.out⟩
end
section
section
variable {P : Program} {C : World -> Prop} {a : Act} {o : Oper}
theorem yn {K : Act -> Prop} (ty : TypeId) (x : Operand) (ho : o.op = .load ty x) (b off : Nat) (hx : a.eval x = .pointer (some ⟨b, off, none⟩)) (cs : List Value) (d : TypeDesc) (hc : ∀ w, C w -> w.rangeAt b off cs)
    (hu : P.underlying ty = some d) (hd : d.isRow = true) (hi : (P.info? ty).map (·.size) = some cs.length) (hk : K (a.put o.dst (.agg cs.toArray))) : o.quiet P a C K :=
 ⟨_, fun w hw => by
  unfold Oper.quietAt execOp
  simp only [ho, hx, Instr.loadAt, Instr.sureAddr, Sem.run_bind, Sem.run_pure, Result.andThen_ok, run_loadVar_mid w b off ty cs d (hc w hw) hu hd hi]
  exact ⟨rfl, rfl⟩, hk⟩
end
section
variable {P : Program}
end
end
section
theorem findS_le {key : List Int} : ∀ {V : List Vd} {m : Nat} (h : m < V.length), V[m].key = key -> 0 <= findS key V /\ findS key V <= (m : Int)
 | x :: V, 0, _, e => by
  have e' : x.key = key := e
  rw [findS, if_pos e']; simp
 | x :: V, m + 1, h, e => by
  rw [findS]
  by_cases hx : x.key = key
  · rw [if_pos hx]; omega
  · rw [if_neg hx]
    have ih := findS_le (V := V) (m := m) (by simpa using h) e
    rw [if_neg (by omega)]; omega
theorem zbm (w : World) (A : Option Addr) (c : Nat) (V : List Vd) (hV : VdsAt w A V) (ok : keysOk V) (hl : V.length < 1000) (hc : V.length <= c) :
    Calls Tryz.prog 22 #[.slice A V.length c] w fun e w' => e = .returned (.bool (rightS V)) /\ w.grownBy w' none := by
 by_cases h7 : 1 <= V.length /\ V.length <= 7
 · have g1 : ((V.length : Int) == 0) = false := by simp; intro h; rw [h] at h7; simp at h7
   have g3 : (1 : Int) <= (V.length : Int) := by omega
   have g4 : (V.length : Int) <= 7 := by omega
   obtain ⟨zs, hzs⟩ : ∃ zs : Array Value, zs = (List.replicate 16 (Value.int .u8 0) ++ [Value.int .i64 0]).toArray := ⟨_, rfl⟩
   have hz : ∀ w, Sem.run Tryz.prog (zeroValue 55) w = .ok (.agg zs) w := fun w => by rw [hzs]; exact zbr w (by kernel_rfl)
   have HZ := hQ_ hzs
   have HC7 := hQ_ (aQ h7 hc)
   clear hzs hc
   go_enter Tryz.func22, Tryz.ntmps22
   go_wp2_with fail
   go_loopw [17] (fun i wr => ∃ k : Nat, k <= V.length /\ i = .int .i64 (k : Int) /\ (∀ j (h : j < V.length), j < k -> 1 <= V[j].p /\ V[j].p <= 1099511627776 /\ findS V[j].key V = (j : Int)) /\ w.grownBy wr none) (fun i _ => V.length - (intOf i).toNat)
   case atStart => exact ⟨0, by omega, rfl, fun j _ h => absurd h (by omega), World.grownBy.refl w none⟩
   case round =>
    obtain ⟨k, hkl, hi, hno, hK⟩ := hrel
    obtain ⟨I, hI⟩ : ∃ I : Int, I = (k : Int) := ⟨_, rfl⟩
    rw [<- hI] at hi
    subst hi
    by_cases hlt : k < V.length
    · have hne : V ≠ [] := by rintro rfl; simp at hlt
      obtain ⟨b, off, rfl, hc⟩ := hV hne
      have d1 : decide (I < (V.length : Int)) = true := by simp; omega
      have hIV : I < (V.length : Int) := by omega
      have hI0 : 0 <= I /\ I < 1000 := by omega
      have hIc : I <= (c : Int) := by have := HC7.out.2; omega
      have hkI : I.toNat = k := by omega
      have r1 := ze (hc k hlt) hK
      have hx := ok _ (List.getElem_mem hlt)
      obtain ⟨x, hxe⟩ : ∃ x, x = V[k] := ⟨_, rfl⟩
      rw [<- hxe] at r1 hx
      rw [<- hkI] at r1
      have i1 := vdSize hx
      have HR := hQ_ (aQ r1 (show ∃ h : k < V.length, x = V[k] from ⟨hlt, hxe⟩))
      have HI := hQ_ (aQ i1 hx)
      have HN := hQ_ (aQ hno (aQ hK (aQ hl hI)))
      have HV := hQ_ (aQ hV ok)
      have HCC := hQ_ hc
      obtain ⟨cs, hcs⟩ : ∃ cs, cs = x.cells.toArray := ⟨_, rfl⟩
      obtain ⟨hsz, hall, hinf⟩ := zbg hx hcs
      obtain ⟨W0, hW0⟩ : ∃ W0, W0 = (wr.alloc (.cells zs 55)).setRow wr.heap.size cs := ⟨_, rfl⟩
      obtain ⟨hG0, hr0, c16⟩ := zcn hx hcs hW0
      have HC := hQ_ (aQ hcs (aQ hsz (aQ hall hinf)))
      have HW := hQ_ hW0
      have HG := hQ_ (aQ hG0 hr0)
      have HK := hQ_ (zcy hx)
      obtain ⟨p, hp⟩ : ∃ p, p = x.p := ⟨_, rfl⟩
      rw [<- hp] at c16
      have HP := hQ_ hp
      have HNot := hQ_ (show (p < 1 \/ 1099511627776 < p \/ ¬ findS x.key V = I) -> rightS V = false from fun h => by
       cases hr : rightS V with
       | false => rfl
       | true =>
        obtain ⟨q1, q2, q3⟩ := ((ud V).1 hr).2 k hlt
        rw [<- hxe] at q1 q2 q3
        exfalso; omega)
      clear r1 hxe i1 hx hno hc ok hne hK hV hkl hl hI hkI hcs hsz hall hinf hp hG0 hr0 hW0 hlt h7
      by_cases p1 : p < 1
      · have p1' : decide (p < 1) = true := by simpa using p1
        have hnot := hQ_ (HNot.out (.inl p1))
        clear p1
        go_wp2_with (first
         | (refine wpList_load_mid rfl 55 _ rfl b (off + I.toNat * 17) rfl x.cells _ HR.out.1 Tryz.underlying55 rfl HI.out.1 ?_; rw [<- HC.out.1])
         | (refine wpList_store_row rfl 55 _ _ rfl wr.heap.size cs rfl rfl 55 _ (heap_alloc_new wr _) HC.out.2.2.2 (by rw [HC.out.2.1, HZ.out]; simp) HC.out.2.2.1 ?_
            rw [<- HW.out]))
        go_ret
        exact ⟨by rw [hnot.out]; rfl, za HN.out.2.1 HG.out.1⟩
      · have p1' : decide (p < 1) = false := by simpa using p1
        have p1'' : 1 <= p := by omega
        by_cases p2 : 1099511627776 < p
        · have p2' : decide (1099511627776 < p) = true := by simpa using p2
          have hnot := hQ_ (HNot.out (.inr (.inl p2)))
          clear p1
          go_wp2_with (first
           | (refine wpList_load_mid rfl 55 _ rfl b (off + I.toNat * 17) rfl x.cells _ HR.out.1 Tryz.underlying55 rfl HI.out.1 ?_; rw [<- HC.out.1])
           | (refine wpList_store_row rfl 55 _ _ rfl wr.heap.size cs rfl rfl 55 _ (heap_alloc_new wr _) HC.out.2.2.2 (by rw [HC.out.2.1, HZ.out]; simp) HC.out.2.2.1 ?_
              rw [<- HW.out]))
          go_ret
          exact ⟨by rw [hnot.out]; rfl, za HN.out.2.1 HG.out.1⟩
        · have p2' : decide (1099511627776 < p) = false := by simpa using p2
          have p2'' : p <= 1099511627776 := by omega
          have HP2 := hQ_ (aQ p1 p2)
          clear p1 p2
          go_wp2_with (first
           | (refine wpList_load_mid rfl 55 _ rfl b (off + I.toNat * 17) rfl x.cells _ HR.out.1 Tryz.underlying55 rfl HI.out.1 ?_; rw [<- HC.out.1])
           | (refine wpList_store_row rfl 55 _ _ rfl wr.heap.size cs rfl rfl 55 _ (heap_alloc_new wr _) HC.out.2.2.2 (by rw [HC.out.2.1, HZ.out]; simp) HC.out.2.2.1 ?_
              rw [<- HW.out]))
          obtain ⟨B0, hB0⟩ : ∃ B0, B0 = wr.heap.size := ⟨_, rfl⟩
          rw [<- hB0] at HG ⊢
          have HGK := hQ_ (za HN.out.2.1 HG.out.1)
          have HNK := hQ_ (show ∃ h : k < V.length, x = V[k] from HR.out.2)
          have hk17 := hQ_ HN.out.2.2.2
          have HNN := hQ_ HN.out.1
          clear c16 HW HR HN hB0
          go_loopw [34] (fun i wr2 => ∃ m : Nat, m <= k /\ i = .int .i64 (m : Int) /\ (∀ j (h : j < V.length), j < m -> V[j].key ≠ x.key) /\ W0.grownBy wr2 none) (fun i _ => k - (intOf i).toNat)
          case atStart => exact ⟨0, by omega, rfl, fun j _ h => absurd h (by omega), World.grownBy.refl W0 none⟩
          case round =>
           obtain ⟨m, hmk, hi, hno, hK⟩ := hrel
           obtain ⟨J, hJ⟩ : ∃ J : Int, J = (m : Int) := ⟨_, rfl⟩
           rw [<- hJ] at hi
           subst hi
           by_cases hmt : m < k
           · obtain ⟨hlt, hxe⟩ := HNK.out
             have hIk := hk17.out
             have hmV : m < V.length := by omega
             have d2 : decide (J < I) = true := by simp; omega
             have hJI : J < I := by omega
             have hJ0 : 0 <= J /\ J < 1000 := by omega
             have hJm : J.toNat = m := by omega
             have r2 := ze (HCC.out m hmV) (za HGK.out hK)
             have rx := ze HG.out.2 hK
             have hy := HV.out.2 _ (List.getElem_mem hmV)
             obtain ⟨y, hye⟩ : ∃ y, y = V[m] := ⟨_, rfl⟩
             rw [<- hye] at r2 hy
             rw [<- hJm] at r2
             obtain ⟨cy, hcy⟩ : ∃ cy, cy = y.cells.toArray := ⟨_, rfl⟩
             obtain ⟨ysz, yall, yinf⟩ := zbg hy hcy
             obtain ⟨W1, hW1⟩ : ∃ W1, W1 = (wr.alloc (.cells zs 55)).setRow wr.heap.size cy := ⟨_, rfl⟩
             obtain ⟨hG1, hr1, _⟩ := zcn hy hcy hW1
             have rx1 := ze rx hG1
             have heq : ∀ w, Sem.run Tryz.prog (Op.equalIn 10000 24 (.agg (arrV .u8 y.key)) (.agg (arrV .u8 x.key))) w = .ok (decide (y.key = x.key)) w := fun w => eqD w y.key x.key hy HI.out.2
             obtain ⟨r, hr⟩ : ∃ r, r = decide (y.key = x.key) := ⟨_, rfl⟩
             rw [<- hr] at heq
             have i1 := zcy hy
             have i2 := zcy HI.out.2
             obtain ⟨ky, hky⟩ : ∃ ky, ky = y.key.map (Value.int .u8) := ⟨_, rfl⟩
             obtain ⟨kx, hkx⟩ : ∃ kx, kx = x.key.map (Value.int .u8) := ⟨_, rfl⟩
             unfold arrV at heq
             rw [<- hky] at hr1 i1 heq
             rw [<- hkx] at rx1 i2 heq
             have HY := hQ_ (aQ r2 (aQ (vdSize hy) (aQ hcy (aQ ysz (aQ yall yinf)))))
             have HY1 := hQ_ (aQ hr1 (aQ rx1 (aQ i1 i2)))
             have HW1 := hQ_ hW1
             have HM := hQ_ (aQ hno (aQ (za hK hG1) (aQ hJ hmt)))
             have HQ := hQ_ (show ∃ h : m < V.length, r = decide (V[m].key = x.key) from ⟨hmV, by rw [hr, hye]⟩)
             clear r2 rx hye hy hcy ysz yall yinf hW1 hG1 hr1 rx1 i1 i2 hky hkx hno hK hJ hmt hmk hlt hxe hIk hmV hJm hr
             cases r with
             | true =>
              have hnot := hQ_ (HNot.out (.inr (.inr (by
               obtain ⟨h1, h2⟩ := HQ.out
               have h3 := findS_le h1 (by simpa using h2.symm)
               have h4 := HM.out.2.2
               have h5 := hk17.out
               omega))))
              go_wp2_with (first
               | (refine wpList_load_mid rfl 55 _ rfl b (off + J.toNat * 17) rfl y.cells _ HY.out.1 Tryz.underlying55 rfl HY.out.2.1 ?_; rw [<- HY.out.2.2.1])
               | (refine wpList_store_row rfl 55 _ _ rfl wr.heap.size cy rfl rfl 55 _ (heap_alloc_new wr _) HY.out.2.2.2.2.2 (by rw [HY.out.2.2.2.1, HZ.out]; simp) HY.out.2.2.2.2.1 ?_
                  rw [<- HW1.out])
               | (refine wpList_load_mid rfl 24 _ rfl wr.heap.size 0 rfl ky _ HY1.out.1 Tryz.underlying24 rfl HY1.out.2.2.1 ?_)
               | (refine wpList_load_mid rfl 24 _ rfl B0 0 rfl kx _ HY1.out.2.1 Tryz.underlying24 rfl HY1.out.2.2.2 ?_))
              go_ret
              exact ⟨by rw [hnot.out]; rfl, za HGK.out HM.out.2.1⟩
             | false =>
              go_wp2_with (first
               | (refine wpList_load_mid rfl 55 _ rfl b (off + J.toNat * 17) rfl y.cells _ HY.out.1 Tryz.underlying55 rfl HY.out.2.1 ?_; rw [<- HY.out.2.2.1])
               | (refine wpList_store_row rfl 55 _ _ rfl wr.heap.size cy rfl rfl 55 _ (heap_alloc_new wr _) HY.out.2.2.2.2.2 (by rw [HY.out.2.2.2.1, HZ.out]; simp) HY.out.2.2.2.2.1 ?_
                  rw [<- HW1.out])
               | (refine wpList_load_mid rfl 24 _ rfl wr.heap.size 0 rfl ky _ HY1.out.1 Tryz.underlying24 rfl HY1.out.2.2.1 ?_)
               | (refine wpList_load_mid rfl 24 _ rfl B0 0 rfl kx _ HY1.out.2.1 Tryz.underlying24 rfl HY1.out.2.2.2 ?_))
              go_roundw
              case rel =>
               obtain ⟨m1, m2, m3, m4⟩ := HM.out
               obtain ⟨h1, h2⟩ := HQ.out
               refine ⟨m + 1, by omega, by rw [m3]; rfl, fun j hj hjk => ?_, m2⟩
               by_cases hjk' : j < m
               · exact m1 j hj hjk'
               · obtain rfl : j = m := by omega
                 simpa using h2.symm
              case measure => obtain ⟨m1, m2, m3, m4⟩ := HM.out; simp [intOf]; omega
           · have hIk := hk17.out
             have d2 : decide (J < I) = false := by simp; omega
             have hJI : I <= J := by omega
             have hf : findS x.key V = I := by
              obtain ⟨h1, h2⟩ := HNK.out
              rw [h2, hIk]
              exact findS_at h1 (fun j hj hjk => by rw [<- h2]; exact hno j hj (by omega)) rfl
             have HF := hQ_ (aQ hf hK)
             clear hno hK hJ hmt hmk hIk hf
             go_wp2_with fail
             go_roundw
             case rel =>
              obtain ⟨f1, f2⟩ := HF.out
              obtain ⟨h1, h2⟩ := HNK.out
              have h3 := HP2.out
              have h4 := HP.out
              have h5 := hk17.out
              refine ⟨k + 1, by omega, by rw [h5]; rfl, fun j hj hjk => ?_, za HGK.out f2⟩
              by_cases hjk' : j < k
              · exact HNN.out j hj hjk'
              · obtain rfl : j = k := by omega
                rw [<- h2]; omega
             case measure => have := hk17.out; obtain ⟨h1, h2⟩ := HNK.out; simp [intOf]; omega
    · have d1 : decide (I < (V.length : Int)) = false := by simp; omega
      have HN := hQ_ (aQ hno (aQ hK (aQ hkl hlt)))
      have H7 := hQ_ h7
      clear hno hK hkl hlt hI h7
      go_wp2_with fail
      go_ret
      exact ⟨by rw [(ud V).2 ⟨H7.out, fun j hj => HN.out.1 j hj (by have := HN.out.2.2.2; omega)⟩]; rfl, HN.out.2.1⟩
 · have hnot : rightS V = false := by
     cases hr : rightS V with
     | false => rfl
     | true => exact absurd ((ud V).1 hr).1 h7
   rw [hnot]
   by_cases h1 : 1 <= V.length
   · have g1 : ((V.length : Int) == 0) = false := by simp; intro h; rw [h] at h1; simp at h1
     have g3 : (1 : Int) <= (V.length : Int) := by omega
     have g4 : (7 : Int) < (V.length : Int) := by omega
     clear hnot h7 h1 hV ok
     go_enter Tryz.func22, Tryz.ntmps22
     go_wp2_with fail
     go_ret
     exact ⟨rfl, World.grownBy.refl w none⟩
   · obtain rfl : V = [] := List.length_eq_zero_iff.1 (by omega)
     clear hnot h7 h1 hV ok hl
     go_enter Tryz.func22, Tryz.ntmps22
     go_wp2_with fail
     go_ret
     exact ⟨rfl, World.grownBy.refl w none⟩
end
end Go.Proofs.YtigafnbofmiknaaGreatDoor
