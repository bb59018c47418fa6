/-
  Package lru: find: the slot of a key, and whether there is one; nothing that was there is changed.
-/
import Derived.Test.YtjifmfgfmciaeaaImpC
namespace Go.Proofs.Ytjifmfgfmciaeaa
open Go.RowKit

theorem find_at {L : List Sl} {k : Nat} {x : Sl} {key : Int × Int} (h : ∀ i y, i < k → L[i]? = some y → y.key ≠ key) (hx : L[k]? = some x) (hk : x.key = key) : findS L key = some x := by
  obtain ⟨hl, rfl⟩ := List.getElem?_eq_some_iff.1 hx
  unfold findS
  rw [List.find?_eq_some_iff_getElem]
  refine ⟨by simpa using hk, k, hl, rfl, fun j hj => ?_⟩
  have := h j _ hj (List.getElem?_eq_getElem (by omega))
  simpa using this
theorem find_no {L : List Sl} {key : Int × Int} (h : ∀ i y, i < L.length → L[i]? = some y → y.key ≠ key) : findS L key = none := by
  unfold findS
  rw [List.find?_eq_none]
  intro y hy
  obtain ⟨i, hi⟩ := List.getElem?_of_mem hy
  have := h i y (List.getElem?_eq_some_iff.1 hi).1 hi
  simpa using this
def FindTold (x : Sl) (b : Bool) (w : World) (e : Ending) (w' : World) : Prop := e = .returned (.tuple #[.agg #[.int .u64 x.sum, .int .i64 x.len, .string x.left, .string x.right, .string x.val], .bool b]) ∧ Below w.heap.size w w'
/-- between two rounds -/
structure FindIn (w wr : World) (g h : Nat) (ks kl : Int) (L : List Sl) (k : Nat) : Prop where
  key : Blk wr g 61 #[.int .u64 ks, .int .i64 kl]
  res : Blk wr h 63 #[.int .u64 0, .int .i64 0, .string ⟨#[]⟩, .string ⟨#[]⟩, .string ⟨#[]⟩]
  no : ∀ i y, i < k → L[i]? = some y → y.key ≠ (ks, kl)
  below : Below w.heap.size w wr
theorem FindIn.more {w wr : World} {g h k : Nat} {ks kl : Int} {L : List Sl} {x : Sl} (hi : FindIn w wr g h ks kl L k) (hx : L[k]? = some x) (hk : x.key ≠ (ks, kl)) (o : Obj) : FindIn w (wr.alloc o) g h ks kl L (k + 1) :=
  ⟨hi.key.alloc o, hi.res.alloc o, fun i y hlt hy => by
    by_cases e : i = k
    · subst e; rw [hx] at hy; injection hy with hy; rw [← hy]; exact hk
    · exact hi.no i y (by omega) hy, hi.below.alloc hi.below.size o⟩

set_option maxHeartbeats 2000000 in
theorem find_any (A : Option Addr) (L : List Sl) (n c : Nat) (ks kl : Int) (w : World) (xo : Sl) (bo : Bool) (hm : (findS L (ks, kl) = some xo ∧ bo = true) ∨ (findS L (ks, kl) = none ∧ xo = zeroS ∧ bo = false)) (ha : SlotsAt w A L) (hn : L.length = n) (h1 : L.length ≤ 1048576) :
    Calls Try.prog 53 #[.slice A n c, .agg #[.int .u64 ks, .int .i64 kl]] w (FindTold xo bo w) := by
  subst hn
  have HA := Lib.hid ha
  have HM := Lib.hid hm
  clear ha hm
  go_enter Try.func53, Try.ntmps53
  go_wp2_with fail
  have hb0 : Blk ((w.alloc (.cells #[.int .u64 ks, .int .i64 kl] 61)).alloc (.cells #[.int .u64 0, .int .i64 0, .string ⟨#[]⟩, .string ⟨#[]⟩, .string ⟨#[]⟩] 63)) w.heap.size 61 #[.int .u64 ks, .int .i64 kl] := (Blk.new w _ _).alloc _
  have hb2 : Blk ((w.alloc (.cells #[.int .u64 ks, .int .i64 kl] 61)).alloc (.cells #[.int .u64 0, .int .i64 0, .string ⟨#[]⟩, .string ⟨#[]⟩, .string ⟨#[]⟩] 63)) (w.heap.size + 1) 63 #[.int .u64 0, .int .i64 0, .string ⟨#[]⟩, .string ⟨#[]⟩, .string ⟨#[]⟩] := by
    have := Blk.new (w.alloc (.cells #[.int .u64 ks, .int .i64 kl] 61)) 63 #[.int .u64 0, .int .i64 0, .string ⟨#[]⟩, .string ⟨#[]⟩, .string ⟨#[]⟩]
    simpa using this
  have hw0 : Below w.heap.size w ((w.alloc (.cells #[.int .u64 ks, .int .i64 kl] 61)).alloc (.cells #[.int .u64 0, .int .i64 0, .string ⟨#[]⟩, .string ⟨#[]⟩, .string ⟨#[]⟩] 63)) := ((Below.refl _ _).alloc (Nat.le_refl _) _).alloc (by simp) _
  obtain ⟨w1, hw1⟩ : ∃ w1, w1 = (w.alloc (.cells #[.int .u64 ks, .int .i64 kl] 61)).alloc (.cells #[.int .u64 0, .int .i64 0, .string ⟨#[]⟩, .string ⟨#[]⟩, .string ⟨#[]⟩] 63) := ⟨_, rfl⟩
  obtain ⟨g, hg⟩ : ∃ g, g = w.heap.size := ⟨_, rfl⟩
  obtain ⟨h, hh⟩ : ∃ h, h = w.heap.size + 1 := ⟨_, rfl⟩
  rw [← hw1] at hb0 hb2 hw0 ⊢
  rw [← hh] at hb2 ⊢
  rw [← hg] at hb0
  have HG2 : Hid (w.heap.size ≤ h) := Lib.hid (by omega)
  have hne : g ≠ h := by omega
  rw [show (⟨w.heap.size, 0, none⟩ : Addr) = ⟨g, 0, none⟩ from by rw [hg]]
  have HI0 : Hid (FindIn w w1 g h ks kl L 0) := Lib.hid ⟨hb0, hb2, fun i y hi => absurd hi (Nat.not_lt_zero _), hw0⟩
  clear hb0 hb2 hw0 hw1 hg hh
  go_loopw [10] (fun i wr => ∃ k : Nat, k ≤ L.length ∧ i = .int .i64 k ∧ Hid (FindIn w wr g h ks kl L k)) (fun i _ => L.length - (intOf i).toNat)
  case atStart => exact ⟨0, Nat.zero_le _, rfl, HI0⟩
  case round =>
    obtain ⟨k, hk, rfl, HV⟩ := hrel
    have y0 := Blk.cell HV.out.key 0
    have y1 := Blk.cell HV.out.key 1
    have z0 := Blk.cell HV.out.res 0
    have z1 := Blk.cell HV.out.res 1
    have z2 := Blk.cell HV.out.res 2
    have z3 := Blk.cell HV.out.res 3
    have z4 := Blk.cell HV.out.res 4
    have q0 := Blk.frozen HV.out.res 0
    have q1 := Blk.frozen HV.out.res 1
    have q2 := Blk.frozen HV.out.res 2
    have q3 := Blk.frozen HV.out.res 3
    have q4 := Blk.frozen HV.out.res 4
    have hl1 := Blk.lt HV.out.key
    have hl2 := Blk.lt HV.out.res
    simp only [List.getElem?_toArray, List.getElem?_cons_zero, List.getElem?_cons_succ] at y0 y1 z0 z1 z2 z3 z4
    by_cases g1 : k < L.length
    · obtain ⟨x, hx⟩ : ∃ x, L[k]? = some x := ⟨_, List.getElem?_eq_getElem g1⟩
      obtain ⟨a, rfl, hal, c0, c1, c2, c3, c4⟩ := slots_fields (HA.out.up HV.out.below) hx
      have HX := Lib.hid hx
      clear hx
      cases t1 : (x.sum == ks) with
      | false =>
        have HE : Hid (x.key ≠ (ks, kl)) := Lib.hid (by intro e; have := congrArg Prod.fst e; simp [Sl.key] at this; simp [this] at t1)
        go_wp2_with fail
        go_roundw
        case rel => exact ⟨k + 1, by omega, by go_num, Lib.hid (HV.out.more HX.out HE.out _)⟩
        case measure => simp [intOf]; omega
      | true =>
        cases t2 : (x.len == kl) with
        | false =>
          have HE : Hid (x.key ≠ (ks, kl)) := Lib.hid (by intro e; have := congrArg Prod.snd e; simp [Sl.key] at this; simp [this] at t2)
          go_wp2_with fail
          go_roundw
          case rel => exact ⟨k + 1, by omega, by go_num, Lib.hid (HV.out.more HX.out HE.out _)⟩
          case measure => simp [intOf]; omega
        | true =>
          have he : x.key = (ks, kl) := Prod.ext (by show x.sum = ks; simpa using t1) (by show x.len = kl; simpa using t2)
          have hfs := find_at HV.out.no HX.out he
          have hres : xo = x ∧ bo = true := by
            rcases HM.out with ⟨h1, h2⟩ | ⟨h1, _⟩
            · rw [hfs] at h1; injection h1 with h1; exact ⟨h1.symm, h2⟩
            · rw [hfs] at h1; cases h1
          obtain ⟨rfl, rfl⟩ := hres
          have HB : Hid (Below w.heap.size w wr) := Lib.hid HV.out.below
          clear he hfs
          go_wp2_with fail
          refine bodyPost_ret (v := .tuple #[.agg #[.int .u64 xo.sum, .int .i64 xo.len, .string xo.left, .string xo.right, .string xo.val], .bool true]) (by simp [results, Try.results53, go_sem, z0, z1, z2, z3, z4, hl2]) rfl ?_
          exact ⟨rfl, ((((((HB.out.setCell HG2.out _).setCell HG2.out _).setCell HG2.out _).setCell HG2.out _).setCell HG2.out _)).alloc (by simpa using HB.out.size) _⟩
    · have hno : findS L (ks, kl) = none := find_no fun i y hi => HV.out.no i y (by omega)
      have hres : xo = zeroS ∧ bo = false := by
        rcases HM.out with ⟨h1, _⟩ | ⟨_, h2⟩
        · rw [hno] at h1; cases h1
        · exact h2
      obtain ⟨rfl, rfl⟩ := hres
      clear hno
      go_wp2_with fail
      refine bodyPost_ret (v := .tuple #[.agg #[.int .u64 0, .int .i64 0, .string ⟨#[]⟩, .string ⟨#[]⟩, .string ⟨#[]⟩], .bool false]) (by simp [results, Try.results53, go_sem, z0, z1, z2, z3, z4]) rfl ?_
      exact ⟨rfl, ((((HV.out.below.setCell HG2.out _).setCell HG2.out _).setCell HG2.out _).setCell HG2.out _).setCell HG2.out _⟩

end Go.Proofs.Ytjifmfgfmciaeaa
