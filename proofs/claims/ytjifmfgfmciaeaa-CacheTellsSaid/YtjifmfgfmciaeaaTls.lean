/-
  collatorlaw14.CacheTells returns true: which caches may be, how much is in one, what two texts have come to, and what is put, is as the document says. Nothing that was there is changed.
-/
import Derived.Test.YtjifmfgfmciaeaaTrn
import Derived.Lib.MinMax
import Derived.Laws.IdiomStrings
namespace Go.Proofs.Ytjifmfgfmciaeaa
open Go.RowKit

/-- two caches, one behind the other -/
def CasAt (w : World) (aa : Addr) : Prop := ∀ k : Nat, k < 2 → ∃ (e : Ca) (A : Option Addr) (n cap : Nat), CaSmall e ∧ e.parts.length = n ∧ n ≤ cap ∧ PartsAt (fun _ => False) w A e.parts ∧ ∀ W, Below w.heap.size w W → W.cell? (aa.add (k * 7)) = some (.int .i64 e.width) ∧ W.cell? ⟨(aa.add (k * 7)).block, (aa.add (k * 7)).off + 1, none⟩ = some (.int .i64 e.room) ∧ W.cell? ⟨(aa.add (k * 7)).block, (aa.add (k * 7)).off + 2, none⟩ = some (.slice A n cap) ∧ W.cell? ⟨(aa.add (k * 7)).block, (aa.add (k * 7)).off + 3, none⟩ = some (.int .i64 e.hits) ∧ W.cell? ⟨(aa.add (k * 7)).block, (aa.add (k * 7)).off + 4, none⟩ = some (.int .i64 e.misses) ∧ W.cell? ⟨(aa.add (k * 7)).block, (aa.add (k * 7)).off + 5, none⟩ = some (.int .i64 e.clashes) ∧ W.cell? ⟨(aa.add (k * 7)).block, (aa.add (k * 7)).off + 6, none⟩ = some (.int .i64 e.evicted)
def TxsAt (w : World) (aa : Addr) : Prop := ∀ k : Nat, k < 2 → ∃ l r v : ByteArray, l.size ≤ 4096 ∧ r.size ≤ 4096 ∧ v.size ≤ 4096 ∧ ∀ W, Below w.heap.size w W → W.cell? (aa.add (k * 3)) = some (.string l) ∧ W.cell? ⟨(aa.add (k * 3)).block, (aa.add (k * 3)).off + 1, none⟩ = some (.string r) ∧ W.cell? ⟨(aa.add (k * 3)).block, (aa.add (k * 3)).off + 2, none⟩ = some (.string v)
def TwoCut (wb : World) (v1 v2 v3 : Value) (wx : World) : Prop := ∃ aa : Addr, v1 = .slice (some aa) 2 2 ∧ v2 = .int .i64 2 ∧ v3 = .int .i64 0 ∧ CasAt wx aa ∧ Below wb.heap.size wb wx
def TxtCut (wb : World) (v1 v2 v3 : Value) (wx : World) : Prop := ∃ aa : Addr, v1 = .slice (some aa) 2 2 ∧ v2 = .int .i64 2 ∧ v3 = .int .i64 0 ∧ TxsAt wx aa ∧ Below wb.heap.size wb wx
theorem cut40 (s : ByteArray) : (s.extract 0 (min (s.size : Int) 40).toNat).size ≤ 4096 := by
  rw [ByteArray.size_extract]; omega
theorem cells_k {W : World} {g : Nat} {t : TypeId} {cs : Array Value} (h : Blk W g t cs) (k n j : Nat) : W.cell? ⟨((⟨g, 0, none⟩ : Addr).add (k * n)).block, ((⟨g, 0, none⟩ : Addr).add (k * n)).off + j, none⟩ = cs[k * n + j]? := by
  rw [add_zero_block]; exact h.cell _
theorem cells_0 {W : World} {g : Nat} {t : TypeId} {cs : Array Value} (h : Blk W g t cs) (k n : Nat) : W.cell? ((⟨g, 0, none⟩ : Addr).add (k * n)) = cs[k * n]? := by
  rw [add_zero_block]; exact h.cell _
theorem casAt_two {w : World} {g : Nat} {c d : Ca} {A B : Option Addr} {n m p q : Nat} (h : Blk w g 28 #[.int .i64 c.width, .int .i64 c.room, .slice A n p, .int .i64 c.hits, .int .i64 c.misses, .int .i64 c.clashes, .int .i64 c.evicted, .int .i64 d.width, .int .i64 d.room, .slice B m q, .int .i64 d.hits, .int .i64 d.misses, .int .i64 d.clashes, .int .i64 d.evicted]) (hc : CaSmall c) (hn : c.parts.length = n) (hp : n ≤ p) (ha : PartsAt (fun _ => False) w A c.parts)
    (hd : CaSmall d) (hm : d.parts.length = m) (hq : m ≤ q) (hb : PartsAt (fun _ => False) w B d.parts) : CasAt w ⟨g, 0, none⟩ := fun k hk => by
  rcases (show k = 0 ∨ k = 1 by omega) with rfl | rfl
  · exact ⟨c, A, n, p, hc, hn, hp, ha, fun W hW => have h' := Blk.below h hW h.lt; ⟨cells_0 h' 0 7, cells_k h' 0 7 1, cells_k h' 0 7 2, cells_k h' 0 7 3, cells_k h' 0 7 4, cells_k h' 0 7 5, cells_k h' 0 7 6⟩⟩
  · exact ⟨d, B, m, q, hd, hm, hq, hb, fun W hW => have h' := Blk.below h hW h.lt; ⟨cells_0 h' 1 7, cells_k h' 1 7 1, cells_k h' 1 7 2, cells_k h' 1 7 3, cells_k h' 1 7 4, cells_k h' 1 7 5, cells_k h' 1 7 6⟩⟩
theorem txsAt_two {w : World} {g : Nat} {a b c d e f : ByteArray} (h : Blk w g 38 #[.string a, .string b, .string c, .string d, .string e, .string f]) (ha : a.size ≤ 4096) (hb : b.size ≤ 4096) (hc : c.size ≤ 4096) (hd : d.size ≤ 4096) (he : e.size ≤ 4096) (hf : f.size ≤ 4096) : TxsAt w ⟨g, 0, none⟩ := fun k hk => by
  rcases (show k = 0 ∨ k = 1 by omega) with rfl | rfl
  · exact ⟨a, b, c, ha, hb, hc, fun W hW => have h' := Blk.below h hW h.lt; ⟨cells_0 h' 0 3, cells_k h' 0 3 1, cells_k h' 0 3 2⟩⟩
  · exact ⟨d, e, f, hd, he, hf, fun W hW => have h' := Blk.below h hW h.lt; ⟨cells_0 h' 1 3, cells_k h' 1 3 1, cells_k h' 1 3 2⟩⟩
theorem op_caches2 (c : Ca) (A : Option Addr) (n p : Nat) (d : Ca) (B : Option Addr) (m q : Nat) (W : World) :
    ∃ g W1, (∀ (o : Oper) (x : Act) (i j : Nat), o.op = Op.buildSlice 35 2 #[(0, .tmp i), (1, .tmp j)] → x.eval (.tmp i) = .agg #[.int .i64 c.width, .int .i64 c.room, .slice A n p, .int .i64 c.hits, .int .i64 c.misses, .int .i64 c.clashes, .int .i64 c.evicted] → x.eval (.tmp j) = .agg #[.int .i64 d.width, .int .i64 d.room, .slice B m q, .int .i64 d.hits, .int .i64 d.misses, .int .i64 d.clashes, .int .i64 d.evicted] → (execOp x.eval o).run Try.prog W = .ok (.value (.slice (some ⟨g, 0, none⟩) 2 2)) W1) ∧
      Blk W1 g 28 #[.int .i64 c.width, .int .i64 c.room, .slice A n p, .int .i64 c.hits, .int .i64 c.misses, .int .i64 c.clashes, .int .i64 c.evicted, .int .i64 d.width, .int .i64 d.room, .slice B m q, .int .i64 d.hits, .int .i64 d.misses, .int .i64 d.clashes, .int .i64 d.evicted] ∧ Below W.heap.size W W1 := by
  refine ⟨W.heap.size, W.alloc (.cells #[.int .i64 c.width, .int .i64 c.room, .slice A n p, .int .i64 c.hits, .int .i64 c.misses, .int .i64 c.clashes, .int .i64 c.evicted, .int .i64 d.width, .int .i64 d.room, .slice B m q, .int .i64 d.hits, .int .i64 d.misses, .int .i64 d.clashes, .int .i64 d.evicted] 28), fun o x i j ho hx hy => ?_, Blk.new _ _ _, (Below.refl _ _).alloc (Nat.le_refl _) _⟩
  have hx' : x.tmps[i]?.getD undef = .agg #[.int .i64 c.width, .int .i64 c.room, .slice A n p, .int .i64 c.hits, .int .i64 c.misses, .int .i64 c.clashes, .int .i64 c.evicted] := by simpa [Act.eval] using hx
  have hy' : x.tmps[j]?.getD undef = .agg #[.int .i64 d.width, .int .i64 d.room, .slice B m q, .int .i64 d.hits, .int .i64 d.misses, .int .i64 d.clashes, .int .i64 d.evicted] := by simpa [Act.eval] using hy
  simp only [execOp, ho]
  go_simp
theorem op_texts2 (a b c d e f : ByteArray) (W : World) :
    ∃ g W1, (∀ (o : Oper) (x : Act) (i j : Nat), o.op = Op.buildSlice 40 2 #[(0, .tmp i), (1, .tmp j)] → x.eval (.tmp i) = .agg #[.string a, .string b, .string c] → x.eval (.tmp j) = .agg #[.string d, .string e, .string f] → (execOp x.eval o).run Try.prog W = .ok (.value (.slice (some ⟨g, 0, none⟩) 2 2)) W1) ∧
      Blk W1 g 38 #[.string a, .string b, .string c, .string d, .string e, .string f] ∧ Below W.heap.size W W1 := by
  refine ⟨W.heap.size, W.alloc (.cells #[.string a, .string b, .string c, .string d, .string e, .string f] 38), fun o x i j ho hx hy => ?_, Blk.new _ _ _, (Below.refl _ _).alloc (Nat.le_refl _) _⟩
  have hx' : x.tmps[i]?.getD undef = .agg #[.string a, .string b, .string c] := by simpa [Act.eval] using hx
  have hy' : x.tmps[j]?.getD undef = .agg #[.string d, .string e, .string f] := by simpa [Act.eval] using hy
  simp only [execOp, ho]
  go_simp

set_option maxHeartbeats 32000000 in
set_option maxRecDepth 100000 in
theorem tells_any (n0 n1 n2 a3 b3 e3 : Int) (A4 : Option Addr) (zs : List Tri) (zn c4 : Nat) (n5 n6 : Int) (s7 s8 s9 : ByteArray) (a10 b10 e10 : Int) (w : World) (m0 : -9223372036854775808 ≤ n0 ∧ n0 ≤ 9223372036854775807) (m1 : -9223372036854775808 ≤ n1 ∧ n1 ≤ 9223372036854775807) (m2 : -9223372036854775808 ≤ n2 ∧ n2 ≤ 9223372036854775807) (hf3 : TriFit (a3, b3, e3))
    (ha4 : TrisAt w A4 zs) (hn4 : zs.length = zn) (hl4 : zn ≤ 9223372036854775807) (hf4 : ∀ z ∈ zs, TriFit z) (m5 : -9223372036854775808 ≤ n5 ∧ n5 ≤ 9223372036854775807) (m6 : -9223372036854775808 ≤ n6 ∧ n6 ≤ 9223372036854775807) (_ : s7.size ≤ maxLen) (_ : s8.size ≤ maxLen) (_ : s9.size ≤ maxLen) (hf10 : TriFit (a10, b10, e10)) :
    Calls Try.prog 3 #[.int .i64 n0, .int .i64 n1, .int .i64 n2, .agg #[.int .i64 a3, .int .i64 b3, .int .i64 e3], .slice A4 zn c4, .int .i64 n5, .int .i64 n6, .string s7, .string s8, .string s9, .agg #[.int .i64 a10, .int .i64 b10, .int .i64 e10]] w fun e w' => e = .returned (.bool true) ∧ Below w.heap.size w w' := by
  subst hn4
  have HA4 := Lib.hid ha4
  have HF4 := Lib.hid hf4
  have HZ := Lib.hid hf3
  have HT10 := Lib.hid hf10
  have HM0 : Hid (I64 n0) := Lib.hid m0
  have HM1 : Hid (I64 n1) := Lib.hid m1
  have HM2 : Hid (I64 n2) := Lib.hid m2
  have HM5 : Hid (I64 n5) := Lib.hid m5
  have HM6 : Hid (I64 n6) := Lib.hid m6
  obtain ⟨q0, e0⟩ : ∃ q, pickI n0 18 = q := ⟨_, rfl⟩
  obtain ⟨q1, e1⟩ : ∃ q, pickI n1 20 = q := ⟨_, rfl⟩
  obtain ⟨q2, e2⟩ : ∃ q, pickI n2 66 = q := ⟨_, rfl⟩
  have HTLF : Hid (∀ z ∈ ([(n0, n1, n2), (q0, q1, q2)] : List Tri), TriFit z) := Lib.hid fun z hz => by
    have r0 := pickI_range n0 18 (by omega)
    have r1 := pickI_range n1 20 (by omega)
    have r2 := pickI_range n2 66 (by omega)
    rw [e0] at r0
    rw [e1] at r1
    rw [e2] at r2
    rcases List.mem_cons.1 hz with rfl | hz
    · exact ⟨m0, m1, m2⟩
    · rw [List.mem_singleton.1 hz]
      exact ⟨⟨by show _ ≤ q0; omega, by show q0 ≤ _; omega⟩, ⟨by show _ ≤ q1; omega, by show q1 ≤ _; omega⟩, ⟨by show _ ≤ q2; omega, by show q2 ≤ _; omega⟩⟩
  have HQ0 := Lib.hid e0
  have HQ1 := Lib.hid e1
  have HQ2 := Lib.hid e2
  clear ha4 hf4 hf3 hf10 m0 m1 m2 m5 m6 e0 e1 e2
  go_enter Try.func3, Try.ntmps3
  go_wp2_with fail
  have hb14 : Blk ((w.alloc (.cells #[.int .i64 a3, .int .i64 b3, .int .i64 e3] 22)).alloc (.cells #[.int .i64 a10, .int .i64 b10, .int .i64 e10] 22)) w.heap.size 22 #[.int .i64 a3, .int .i64 b3, .int .i64 e3] := (Blk.new w _ _).alloc _
  have hb21 : Blk ((w.alloc (.cells #[.int .i64 a3, .int .i64 b3, .int .i64 e3] 22)).alloc (.cells #[.int .i64 a10, .int .i64 b10, .int .i64 e10] 22)) (w.heap.size + 1) 22 #[.int .i64 a10, .int .i64 b10, .int .i64 e10] := by
    have := Blk.new (w.alloc (.cells #[.int .i64 a3, .int .i64 b3, .int .i64 e3] 22)) 22 #[.int .i64 a10, .int .i64 b10, .int .i64 e10]
    simpa using this
  have hw0 : Below w.heap.size w ((w.alloc (.cells #[.int .i64 a3, .int .i64 b3, .int .i64 e3] 22)).alloc (.cells #[.int .i64 a10, .int .i64 b10, .int .i64 e10] 22)) := ((Below.refl _ _).alloc (Nat.le_refl _) _).alloc (by simp) _
  obtain ⟨v0, hw⟩ : ∃ xw, xw = (w.alloc (.cells #[.int .i64 a3, .int .i64 b3, .int .i64 e3] 22)).alloc (.cells #[.int .i64 a10, .int .i64 b10, .int .i64 e10] 22) := ⟨_, rfl⟩
  obtain ⟨g14, hg14⟩ : ∃ g, g = w.heap.size := ⟨_, rfl⟩
  obtain ⟨g21, hg21⟩ : ∃ g, g = w.heap.size + 1 := ⟨_, rfl⟩
  rw [← hw] at hb14 hb21 hw0 ⊢
  rw [← hg21] at hb21 ⊢
  rw [← hg14] at hb14
  rw [show (⟨w.heap.size, 0, none⟩ : Addr) = ⟨g14, 0, none⟩ from by rw [hg14]]
  have HB14 := Lib.hid hb14
  have HB21 := Lib.hid hb21
  have HW := Lib.hid hw0
  clear hb14 hb21 hw0 hw hg14 hg21
  refine (awake_any cache_ok _).mono ?_
  rintro e v1 ⟨rfl, hb⟩
  have HB14 := Lib.hid (Blk.below HB14.out hb HB14.out.lt)
  have HB21 := Lib.hid (Blk.below HB21.out hb HB21.out.lt)
  have HW := Lib.hid (below_step HW.out hb)
  clear hb
  go_wp2_with fail
  refine (pick_v n0 18 q0 HQ0.out _ HM0.out (by omega) (by omega)).mono ?_
  rintro e wq ⟨rfl, rfl⟩
  go_wp2_with fail
  refine (pick_v n1 20 q1 HQ1.out _ HM1.out (by omega) (by omega)).mono ?_
  rintro e wq ⟨rfl, rfl⟩
  go_wp2_with fail
  refine (pick_v n2 66 q2 HQ2.out _ HM2.out (by omega) (by omega)).mono ?_
  rintro e wq ⟨rfl, rfl⟩
  go_upto_block 0 with (fail)
  have hbx : Blk (v1.alloc (.cells #[.int .i64 n0, .int .i64 n1, .int .i64 n2, .int .i64 q0, .int .i64 q1, .int .i64 q2] 22)) v1.heap.size 22 #[.int .i64 n0, .int .i64 n1, .int .i64 n2, .int .i64 q0, .int .i64 q1, .int .i64 q2] := Blk.new v1 _ _
  have hb : Below v1.heap.size v1 (v1.alloc (.cells #[.int .i64 n0, .int .i64 n1, .int .i64 n2, .int .i64 q0, .int .i64 q1, .int .i64 q2] 22)) := (Below.refl _ _).alloc (Nat.le_refl _) _
  obtain ⟨v2, hw⟩ : ∃ xw, xw = v1.alloc (.cells #[.int .i64 n0, .int .i64 n1, .int .i64 n2, .int .i64 q0, .int .i64 q1, .int .i64 q2] 22) := ⟨_, rfl⟩
  obtain ⟨aL, hg⟩ : ∃ a : Addr, a = ⟨v1.heap.size, 0, none⟩ := ⟨_, rfl⟩
  rw [← hw] at hbx hb ⊢
  rw [← hg] at ⊢
  have HTL : Hid (TrisAt v2 (some aL) [(n0, n1, n2), (q0, q1, q2)]) := Lib.hid (by rw [hg]; exact RowAt.of_blk tri_len (L := ([(n0, n1, n2), (q0, q1, q2)] : List Tri)) hbx)
  have HB14 := Lib.hid (Blk.below HB14.out hb HB14.out.lt)
  have HB21 := Lib.hid (Blk.below HB21.out hb HB21.out.lt)
  have HW := Lib.hid (below_step HW.out hb)
  clear hbx hb hw hg
  go_wp2_with fail
  go_loopw [59] (fun sl wr => ∃ i : Nat, i ≤ 2 ∧ sl = .int .i64 i ∧ Hid (Below v2.heap.size v2 wr)) (fun sl _ => 2 - (intOf sl).toNat)
  case atStart => exact ⟨0, by omega, rfl, Lib.hid (Below.refl _ _)⟩
  case round =>
    obtain ⟨i, hki, rfl, HI1⟩ := hrel
    obtain ⟨v3, rfl⟩ : ∃ xw, xw = wr := ⟨_, rfl⟩
    have HB14 := Lib.hid (Blk.below HB14.out HI1.out HB14.out.lt)
    have HB21 := Lib.hid (Blk.below HB21.out HI1.out HB21.out.lt)
    have HW := Lib.hid (below_step HW.out HI1.out)
    have HTL := Lib.hid (HTL.out.up HI1.out)
    by_cases gi : i < 2
    case pos =>
      obtain ⟨z, hz⟩ : ∃ z, ([(n0, n1, n2), (q0, q1, q2)] : List Tri)[i]? = some z := ⟨_, List.getElem?_eq_getElem gi⟩
      obtain ⟨aa, haa, hal, htz⟩ := tri_cells HTL.out hz
      injection haa with haa
      subst haa
      obtain ⟨t0, t1, t2⟩ := htz _ (Below.refl _ _)
      have HTF := Lib.hid (HTLF.out z (List.mem_of_getElem? hz))
      obtain ⟨cN, bN, hm⟩ : ∃ c b, newC z.1 z.2.1 z.2.2 = (c, b) := ⟨_, _, rfl⟩
      have HNM := Lib.hid hm
      have HFN : Hid (CaFit cN) := Lib.hid (by have := new_fit z.1 z.2.1 z.2.2; rw [hm] at this; exact this)
      have nbN : (bN != bN) = false := by simp
      clear hz htz hm hal
      go_upto_region 5 with (fail)
      have hbx : Blk (v3.alloc (.cells #[.int .i64 z.1, .int .i64 z.2.1, .int .i64 z.2.2] 22)) v3.heap.size 22 #[.int .i64 z.1, .int .i64 z.2.1, .int .i64 z.2.2] := Blk.new v3 _ _
      have hb : Below v3.heap.size v3 (v3.alloc (.cells #[.int .i64 z.1, .int .i64 z.2.1, .int .i64 z.2.2] 22)) := (Below.refl _ _).alloc (Nat.le_refl _) _
      obtain ⟨v4, hw⟩ : ∃ xw, xw = v3.alloc (.cells #[.int .i64 z.1, .int .i64 z.2.1, .int .i64 z.2.2] 22) := ⟨_, rfl⟩
      obtain ⟨g25, hg⟩ : ∃ g, g = v3.heap.size := ⟨_, rfl⟩
      rw [← hw] at hbx hb ⊢
      rw [← hg] at hbx ⊢
      have HB25 := Lib.hid hbx
      have HB14 := Lib.hid (Blk.below HB14.out hb HB14.out.lt)
      have HB21 := Lib.hid (Blk.below HB21.out hb HB21.out.lt)
      have HW := Lib.hid (below_step HW.out hb)
      have HTL := Lib.hid (HTL.out.up hb)
      have HI1 := Lib.hid (below_step HI1.out hb)
      clear hbx hb hw hg t0 t1 t2
      have y0 := Blk.cell HB25.out 0
      have y1 := Blk.cell HB25.out 1
      have y2 := Blk.cell HB25.out 2
      simp only [List.getElem?_toArray, List.getElem?_cons_zero, List.getElem?_cons_succ] at y0 y1 y2
      go_wp2_with fail
      refine (newC_any z.1 z.2.1 z.2.2 _ cN bN HNM.out (fun _ => False) (fun _ h => h.elim)).mono ?_
      rintro e v5 ⟨A26, n26, cap26, rfl, hn, hp, hb, hc⟩
      have HB14 := Lib.hid (Blk.below HB14.out hb HB14.out.lt)
      have HB21 := Lib.hid (Blk.below HB21.out hb HB21.out.lt)
      have HW := Lib.hid (below_step HW.out hb)
      have HTL := Lib.hid (HTL.out.up hb)
      have HI1 := Lib.hid (below_step HI1.out hb)
      have HB25 := Lib.hid (Blk.below HB25.out hb HB25.out.lt)
      have HN26 := Lib.hid hn
      have HP26 := Lib.hid hp
      have HK26 := Lib.hid hc
      clear hb hn hp hc y0 y1 y2
      go_upto_region 6 with (fail)
      have hbx : Blk (v5.alloc (.cells #[.int .i64 cN.width, .int .i64 cN.room, .slice A26 n26 cap26, .int .i64 cN.hits, .int .i64 cN.misses, .int .i64 cN.clashes, .int .i64 cN.evicted] 28)) v5.heap.size 28 #[.int .i64 cN.width, .int .i64 cN.room, .slice A26 n26 cap26, .int .i64 cN.hits, .int .i64 cN.misses, .int .i64 cN.clashes, .int .i64 cN.evicted] := Blk.new v5 _ _
      have hb : Below v5.heap.size v5 (v5.alloc (.cells #[.int .i64 cN.width, .int .i64 cN.room, .slice A26 n26 cap26, .int .i64 cN.hits, .int .i64 cN.misses, .int .i64 cN.clashes, .int .i64 cN.evicted] 28)) := (Below.refl _ _).alloc (Nat.le_refl _) _
      obtain ⟨v6, hw⟩ : ∃ xw, xw = v5.alloc (.cells #[.int .i64 cN.width, .int .i64 cN.room, .slice A26 n26 cap26, .int .i64 cN.hits, .int .i64 cN.misses, .int .i64 cN.clashes, .int .i64 cN.evicted] 28) := ⟨_, rfl⟩
      obtain ⟨g26, hg⟩ : ∃ g, g = v5.heap.size := ⟨_, rfl⟩
      rw [← hw] at hbx hb ⊢
      rw [← hg] at hbx ⊢
      have HB26 := Lib.hid hbx
      have HB14 := Lib.hid (Blk.below HB14.out hb HB14.out.lt)
      have HB21 := Lib.hid (Blk.below HB21.out hb HB21.out.lt)
      have HW := Lib.hid (below_step HW.out hb)
      have HTL := Lib.hid (HTL.out.up hb)
      have HI1 := Lib.hid (below_step HI1.out hb)
      have HB25 := Lib.hid (Blk.below HB25.out hb HB25.out.lt)
      have HP26 := Lib.hid (HP26.out.up hb)
      clear hbx hb hw hg
      have y0 := Blk.cell HB25.out 0
      have y1 := Blk.cell HB25.out 1
      have y2 := Blk.cell HB25.out 2
      simp only [List.getElem?_toArray, List.getElem?_cons_zero, List.getElem?_cons_succ] at y0 y1 y2
      go_wp2_with fail
      refine (rnewC_any z.1 z.2.1 z.2.2 _ cN bN HNM.out (fun _ => False) (fun _ h => h.elim)).mono ?_
      rintro e v7 ⟨A28, n28, cap28, rfl, hn, hp, hb, hc⟩
      have HB14 := Lib.hid (Blk.below HB14.out hb HB14.out.lt)
      have HB21 := Lib.hid (Blk.below HB21.out hb HB21.out.lt)
      have HW := Lib.hid (below_step HW.out hb)
      have HTL := Lib.hid (HTL.out.up hb)
      have HI1 := Lib.hid (below_step HI1.out hb)
      have HB25 := Lib.hid (Blk.below HB25.out hb HB25.out.lt)
      have HP26 := Lib.hid (HP26.out.up hb)
      have HB26 := Lib.hid (Blk.below HB26.out hb HB26.out.lt)
      have HN28 := Lib.hid hn
      have HP28 := Lib.hid hp
      have HK28 := Lib.hid hc
      clear hb hn hp hc y0 y1 y2
      go_upto_region 7 with (fail)
      have hbx : Blk (v7.alloc (.cells #[.int .i64 cN.width, .int .i64 cN.room, .slice A28 n28 cap28, .int .i64 cN.hits, .int .i64 cN.misses, .int .i64 cN.clashes, .int .i64 cN.evicted] 28)) v7.heap.size 28 #[.int .i64 cN.width, .int .i64 cN.room, .slice A28 n28 cap28, .int .i64 cN.hits, .int .i64 cN.misses, .int .i64 cN.clashes, .int .i64 cN.evicted] := Blk.new v7 _ _
      have hb : Below v7.heap.size v7 (v7.alloc (.cells #[.int .i64 cN.width, .int .i64 cN.room, .slice A28 n28 cap28, .int .i64 cN.hits, .int .i64 cN.misses, .int .i64 cN.clashes, .int .i64 cN.evicted] 28)) := (Below.refl _ _).alloc (Nat.le_refl _) _
      obtain ⟨v8, hw⟩ : ∃ xw, xw = v7.alloc (.cells #[.int .i64 cN.width, .int .i64 cN.room, .slice A28 n28 cap28, .int .i64 cN.hits, .int .i64 cN.misses, .int .i64 cN.clashes, .int .i64 cN.evicted] 28) := ⟨_, rfl⟩
      obtain ⟨g28, hg⟩ : ∃ g, g = v7.heap.size := ⟨_, rfl⟩
      rw [← hw] at hbx hb ⊢
      rw [← hg] at hbx ⊢
      have HB28 := Lib.hid hbx
      have HB14 := Lib.hid (Blk.below HB14.out hb HB14.out.lt)
      have HB21 := Lib.hid (Blk.below HB21.out hb HB21.out.lt)
      have HW := Lib.hid (below_step HW.out hb)
      have HTL := Lib.hid (HTL.out.up hb)
      have HI1 := Lib.hid (below_step HI1.out hb)
      have HB25 := Lib.hid (Blk.below HB25.out hb HB25.out.lt)
      have HP26 := Lib.hid (HP26.out.up hb)
      have HB26 := Lib.hid (Blk.below HB26.out hb HB26.out.lt)
      have HP28 := Lib.hid (HP28.out.up hb)
      clear hbx hb hw hg
      obtain ⟨y0, y1, y2, y3, y4, y5, y6⟩ := box7 HB26.out (Below.refl _ _)
      obtain ⟨x0, x1, x2, x3, x4, x5, x6⟩ := box7 HB28.out (Below.refl _ _)
      go_wp2_with fail
      refine (sameC_true cN A26 A28 n26 n28 cap26 cap28 _ HP26.out HP28.out HN26.out HN28.out HFN.out).mono ?_
      rintro e v9 ⟨rfl, hb⟩
      have HB14 := Lib.hid (Blk.below HB14.out hb HB14.out.lt)
      have HB21 := Lib.hid (Blk.below HB21.out hb HB21.out.lt)
      have HW := Lib.hid (below_step HW.out hb)
      have HTL := Lib.hid (HTL.out.up hb)
      have HI1 := Lib.hid (below_step HI1.out hb)
      have HB25 := Lib.hid (Blk.below HB25.out hb HB25.out.lt)
      have HP26 := Lib.hid (HP26.out.up hb)
      have HB26 := Lib.hid (Blk.below HB26.out hb HB26.out.lt)
      have HP28 := Lib.hid (HP28.out.up hb)
      have HB28 := Lib.hid (Blk.below HB28.out hb HB28.out.lt)
      clear hb
      clear y0 y1 y2 y3 y4 y5 y6
      clear x0 x1 x2 x3 x4 x5 x6
      go_wp2_with fail
      go_roundw
      case rel => exact ⟨i + 1, by omega, by go_num, HI1⟩
      case measure => simp [intOf]; omega
    case neg =>
      clear HTL HTLF HI1
      have y0 := Blk.cell HB14.out 0
      have y1 := Blk.cell HB14.out 1
      have y2 := Blk.cell HB14.out 2
      simp only [List.getElem?_toArray, List.getElem?_cons_zero, List.getElem?_cons_succ] at y0 y1 y2
      go_wp2_with fail
      refine (cache_any a3 b3 e3 A4 zs zs.length c4 _ HZ.out (HA4.out.up HW.out) rfl hl4 HF4.out).mono ?_
      rintro e v24 ⟨A30, n30, cap30, rfl, hn, hp, hb, hc⟩
      have HB14 := Lib.hid (Blk.below HB14.out hb HB14.out.lt)
      have HB21 := Lib.hid (Blk.below HB21.out hb HB21.out.lt)
      have HW := Lib.hid (below_step HW.out hb)
      have HP30 := Lib.hid hp
      clear hb hp y0 y1 y2
      obtain ⟨c, hcc⟩ : ∃ c, cacheOf (a3, b3, e3) zs = c := ⟨_, rfl⟩
      have HGC : Hid (Good c 20) := Lib.hid (by rw [← hcc]; exact cacheOf_good _ _)
      rw [hcc] at hn HP30 ⊢
      have HN30 := Lib.hid hn
      have HK30 := Lib.hid hc
      have HF30 := Lib.hid (HGC.out.fit (by omega))
      clear hcc hn hc
      go_upto_region 11 with (fail)
      have hbx : Blk (v24.alloc (.cells #[.int .i64 c.width, .int .i64 c.room, .slice A30 n30 cap30, .int .i64 c.hits, .int .i64 c.misses, .int .i64 c.clashes, .int .i64 c.evicted] 28)) v24.heap.size 28 #[.int .i64 c.width, .int .i64 c.room, .slice A30 n30 cap30, .int .i64 c.hits, .int .i64 c.misses, .int .i64 c.clashes, .int .i64 c.evicted] := Blk.new v24 _ _
      have hb : Below v24.heap.size v24 (v24.alloc (.cells #[.int .i64 c.width, .int .i64 c.room, .slice A30 n30 cap30, .int .i64 c.hits, .int .i64 c.misses, .int .i64 c.clashes, .int .i64 c.evicted] 28)) := (Below.refl _ _).alloc (Nat.le_refl _) _
      obtain ⟨v25, hw⟩ : ∃ xw, xw = v24.alloc (.cells #[.int .i64 c.width, .int .i64 c.room, .slice A30 n30 cap30, .int .i64 c.hits, .int .i64 c.misses, .int .i64 c.clashes, .int .i64 c.evicted] 28) := ⟨_, rfl⟩
      obtain ⟨g30, hg⟩ : ∃ g, g = v24.heap.size := ⟨_, rfl⟩
      rw [← hw] at hbx hb ⊢
      rw [← hg] at hbx ⊢
      have HB30 := Lib.hid hbx
      have HB14 := Lib.hid (Blk.below HB14.out hb HB14.out.lt)
      have HB21 := Lib.hid (Blk.below HB21.out hb HB21.out.lt)
      have HW := Lib.hid (below_step HW.out hb)
      have HP30 := Lib.hid (HP30.out.up hb)
      clear hbx hb hw hg
      have HC30 : Hid (∀ W, Below v25.heap.size v25 W → W.cell? ⟨g30, 0, none⟩ = some (.int .i64 c.width) ∧ W.cell? ⟨g30, 1, none⟩ = some (.int .i64 c.room) ∧ W.cell? ⟨g30, 2, none⟩ = some (.slice A30 n30 cap30) ∧ W.cell? ⟨g30, 3, none⟩ = some (.int .i64 c.hits) ∧ W.cell? ⟨g30, 4, none⟩ = some (.int .i64 c.misses) ∧ W.cell? ⟨g30, 5, none⟩ = some (.int .i64 c.clashes) ∧ W.cell? ⟨g30, 6, none⟩ = some (.int .i64 c.evicted)) := Lib.hid fun W hW => box7 HB30.out hW
      have hlen : 1 ≤ n30 ∧ n30 ≤ 900 := by have h1 := HGC.out.right.n1; have h2 := HGC.out.right.n2; have h3 := HN30.out; omega
      go_cut [101, 102, 103] (fun s101 s102 s103 wx => TwoCut v25 s101 s102 s103 wx)
      case first =>
        refine wp_region_noPanic ?_
        refine wp_region_held_drew (S := fun W => Below v25.heap.size v25 W) (by kernel_rfl) ((Below.refl v25.heap.size v25).drew) (fun hS0 => ?_)
        change wpAnyH _ _ _ _ _ 8 #[false, false, false, false, false, false, false, false] _ (World.drew _)
        refine wpAnyH_take (i := 0) (v := .agg #[.int .i64 c.width, .int .i64 c.room, .slice A30 n30 cap30, .int .i64 c.hits, .int .i64 c.misses, .int .i64 c.clashes, .int .i64 c.evicted]) rfl (by kernel_rfl) (by kernel_rfl) (by kernel_rfl) (fun _ _ _ h => h) (Or.inl ⟨by rfl, fun w' hS' => by obtain ⟨y0, y1, y2, y3, y4, y5, y6⟩ := HC30.out _ hS'; go_simp⟩) hS0 ?_
        change wpAnyH _ _ _ _ _ _ _ (Act.put _ (some 96) (.agg #[.int .i64 c.width, .int .i64 c.room, .slice A30 n30 cap30, .int .i64 c.hits, .int .i64 c.misses, .int .i64 c.clashes, .int .i64 c.evicted])) _
        simp only [Act.put, List.setIfInBounds_toArray, List.set_cons_zero, List.set_cons_succ]
        refine wpAnyH_take (i := 1) (v := .agg #[.int .i64 c.width, .int .i64 c.room, .slice A30 n30 cap30, .int .i64 c.hits, .int .i64 c.misses, .int .i64 c.clashes, .int .i64 c.evicted]) rfl (by kernel_rfl) (by kernel_rfl) (by kernel_rfl) (fun _ _ _ h => h) (Or.inl ⟨by rfl, fun w' hS' => by obtain ⟨y0, y1, y2, y3, y4, y5, y6⟩ := HC30.out _ hS'; go_simp⟩) hS0 ?_
        change wpAnyH _ _ _ _ _ _ _ (Act.put _ (some 97) (.agg #[.int .i64 c.width, .int .i64 c.room, .slice A30 n30 cap30, .int .i64 c.hits, .int .i64 c.misses, .int .i64 c.clashes, .int .i64 c.evicted])) _
        simp only [Act.put, List.setIfInBounds_toArray, List.set_cons_zero, List.set_cons_succ]
        refine wpAnyH_take (i := 2) (v := .int .i64 n5) rfl (by kernel_rfl) (by kernel_rfl) (by kernel_rfl) (fun _ _ _ h => h) (Or.inl ⟨by rfl, fun w' hS' => by exact op_move rfl rfl⟩) hS0 ?_
        change wpAnyH _ _ _ _ _ _ _ (Act.put _ (some 98) (.int .i64 n5)) _
        simp only [Act.put, List.setIfInBounds_toArray, List.set_cons_zero, List.set_cons_succ]
        refine wpAnyH_take (i := 3) (v := .int .i64 n6) rfl (by kernel_rfl) (by kernel_rfl) (by kernel_rfl) (fun _ _ _ h => h) (Or.inl ⟨by rfl, fun w' hS' => by exact op_move rfl rfl⟩) hS0 ?_
        change wpAnyH _ _ _ _ _ _ _ (Act.put _ (some 99) (.int .i64 n6)) _
        simp only [Act.put, List.setIfInBounds_toArray, List.set_cons_zero, List.set_cons_succ]
        refine wpAnyH_take (i := 7) (v := .int .i64 0) rfl (by kernel_rfl) (by kernel_rfl) (by kernel_rfl) (fun _ _ _ h => h) (Or.inl ⟨by rfl, fun w' hS' => by exact op_move rfl rfl⟩) hS0 ?_
        change wpAnyH _ _ _ _ _ _ _ (Act.put _ (some 103) (.int .i64 0)) _
        simp only [Act.put, List.setIfInBounds_toArray, List.set_cons_zero, List.set_cons_succ]
        refine wpAnyH_ready (rs := [4]) (by kernel_rfl) (by simp) (AllReadyH.cons rfl (fun K hK => ?_) (AllReadyH.nil))
        · skip
          go_simp
          refine (turned_any c A30 n30 cap30 n5 n6 _ (HP30.out.up hS0) HN30.out HK30.out hlen.1 hlen.2 HF30.out (Nat.le_trans HGC.out.size (by omega)) HM5.out HM6.out).mono ?_
          rintro e W1 ⟨d, hsd, Ad, nd, cd, rfl, hnd, hpd, hbT, hcd⟩
          refine hK.out _ _ (hS0.trans (hbT.mono hS0.size)) (fun hS2 => ?_)
          clear hK K
          simp only [List.setIfInBounds_toArray, List.set_cons_zero, List.set_cons_succ]
          refine wpAnyH_ready (rs := [5]) (by kernel_rfl) (by simp) (AllReadyH.cons rfl (fun K hK => ?_) (AllReadyH.nil))
          · skip
            obtain ⟨gs9, W3, hr6, hk7, hb5⟩ := op_caches2 c A30 n30 cap30 d Ad nd cd W1
            refine step_op_run (hr6 _ _ _ _ rfl rfl rfl) rfl ?_
            refine hK.out _ _ (hS2.trans (hb5.mono hS2.size)) (fun hS4 => ?_)
            clear hK K
            change wpAnyH _ _ _ _ _ _ _ (Act.put _ (some 101) (.slice (some ⟨gs9, 0, none⟩) 2 2)) _
            simp only [Act.put, List.setIfInBounds_toArray, List.set_cons_zero, List.set_cons_succ]
            refine wpAnyH_take (i := 6) (v := .int .i64 2) rfl (by kernel_rfl) (by kernel_rfl) (by kernel_rfl) (fun _ _ _ h => h) (Or.inl ⟨by rfl, fun w' hS' => by go_simp⟩) hS4 ?_
            change wpAnyH _ _ _ _ _ _ _ (Act.put _ (some 102) (.int .i64 2)) _
            simp only [Act.put, List.setIfInBounds_toArray, List.set_cons_zero, List.set_cons_succ]
            refine wpAnyH_done (by kernel_rfl) ?_ _
            refine NoPanic.normal ?_
            go_wp2_with fail
            go_meet
            exact ⟨_, rfl, rfl, rfl, casAt_two hk7 ⟨HF30.out, Nat.le_trans HGC.out.size (by omega)⟩ HN30.out HK30.out (HP30.out.up hS4) hsd hnd hcd (hpd.up hb5), hS4⟩
      case rest =>
        obtain ⟨aT, rfl, rfl, rfl, hcs, hbw⟩ := hcut
        obtain ⟨v26, rfl⟩ : ∃ xw, xw = wc := ⟨_, rfl⟩
        have HB21 := Lib.hid (Blk.below HB21.out hbw HB21.out.lt)
        have HW := Lib.hid (below_step HW.out hbw)
        have HCS := Lib.hid hcs
        clear hcs hbw hlen HC30
        go_wp2_with fail
        go_loopw [103] (fun sl wr => ∃ k : Nat, k ≤ 2 ∧ sl = .int .i64 k ∧ Hid (Below v26.heap.size v26 wr)) (fun sl _ => 2 - (intOf sl).toNat)
        case atStart => exact ⟨0, by omega, rfl, Lib.hid (Below.refl _ _)⟩
        case round =>
          obtain ⟨k, hkk, rfl, HI2⟩ := hrel
          obtain ⟨v27, rfl⟩ : ∃ xw, xw = wr := ⟨_, rfl⟩
          have HB21 := Lib.hid (Blk.below HB21.out HI2.out HB21.out.lt)
          have HW := Lib.hid (below_step HW.out HI2.out)
          by_cases gk : k < 2
          case neg =>
            go_wp2_with fail
            go_ret
            exact ⟨rfl, HW.out⟩
          case pos =>
            obtain ⟨f, A32, n32, cap32, hsm, hn, hc, hp, hcell⟩ := HCS.out k gk
            obtain ⟨y0, y1, y2, y3, y4, y5, y6⟩ := hcell _ HI2.out
            have HSM := Lib.hid hsm
            have HF32 := Lib.hid hsm.1
            have HN32 := Lib.hid hn
            have HK32 := Lib.hid hc
            have HP32 := Lib.hid (hp.up HI2.out)
            obtain ⟨bo, hbo⟩ : ∃ b, rightC f = b := ⟨_, rfl⟩
            have HBO := Lib.hid hbo
            have nbo : (bo != bo) = false := by cases bo <;> rfl
            have nsz : (((sizeC f : Nat) : Int) != ((sizeC f : Nat) : Int)) = false := by simp
            clear hsm hn hc hp hcell hbo
            go_upto_region 14 with (fail)
            have hbx : Blk (v27.alloc (.cells #[.int .i64 f.width, .int .i64 f.room, .slice A32 n32 cap32, .int .i64 f.hits, .int .i64 f.misses, .int .i64 f.clashes, .int .i64 f.evicted] 28)) v27.heap.size 28 #[.int .i64 f.width, .int .i64 f.room, .slice A32 n32 cap32, .int .i64 f.hits, .int .i64 f.misses, .int .i64 f.clashes, .int .i64 f.evicted] := Blk.new v27 _ _
            have hb : Below v27.heap.size v27 (v27.alloc (.cells #[.int .i64 f.width, .int .i64 f.room, .slice A32 n32 cap32, .int .i64 f.hits, .int .i64 f.misses, .int .i64 f.clashes, .int .i64 f.evicted] 28)) := (Below.refl _ _).alloc (Nat.le_refl _) _
            obtain ⟨v28, hw⟩ : ∃ xw, xw = v27.alloc (.cells #[.int .i64 f.width, .int .i64 f.room, .slice A32 n32 cap32, .int .i64 f.hits, .int .i64 f.misses, .int .i64 f.clashes, .int .i64 f.evicted] 28) := ⟨_, rfl⟩
            obtain ⟨g32, hg⟩ : ∃ g, g = v27.heap.size := ⟨_, rfl⟩
            rw [← hw] at hbx hb ⊢
            rw [← hg] at hbx ⊢
            have HB32 := Lib.hid hbx
            have HB21 := Lib.hid (Blk.below HB21.out hb HB21.out.lt)
            have HW := Lib.hid (below_step HW.out hb)
            have HI2 := Lib.hid (below_step HI2.out hb)
            have HP32 := Lib.hid (HP32.out.up hb)
            clear hbx hb hw hg y0 y1 y2 y3 y4 y5 y6
            have HC32 : Hid (∀ W, Below v28.heap.size v28 W → W.cell? ⟨g32, 0, none⟩ = some (.int .i64 f.width) ∧ W.cell? ⟨g32, 1, none⟩ = some (.int .i64 f.room) ∧ W.cell? ⟨g32, 2, none⟩ = some (.slice A32 n32 cap32) ∧ W.cell? ⟨g32, 3, none⟩ = some (.int .i64 f.hits) ∧ W.cell? ⟨g32, 4, none⟩ = some (.int .i64 f.misses) ∧ W.cell? ⟨g32, 5, none⟩ = some (.int .i64 f.clashes) ∧ W.cell? ⟨g32, 6, none⟩ = some (.int .i64 f.evicted)) := Lib.hid fun W hW => box7 HB32.out hW
            go_cut [118] (fun s118 wx => s118 = .bool false ∧ Below v28.heap.size v28 wx)
            case first =>
              refine wp_region_noPanic ?_
              refine wp_region_held_drew (S := fun W => Below v28.heap.size v28 W) (by kernel_rfl) ((Below.refl v28.heap.size v28).drew) (fun hS0 => ?_)
              change wpAnyH _ _ _ _ _ 12 #[false, false, false, false, false, false, false, false, false, false, false, false] _ (World.drew _)
              refine wpAnyH_take (i := 0) (v := .agg #[.int .i64 f.width, .int .i64 f.room, .slice A32 n32 cap32, .int .i64 f.hits, .int .i64 f.misses, .int .i64 f.clashes, .int .i64 f.evicted]) rfl (by kernel_rfl) (by kernel_rfl) (by kernel_rfl) (fun _ _ _ h => h) (Or.inl ⟨by rfl, fun w' hS' => by obtain ⟨y0, y1, y2, y3, y4, y5, y6⟩ := HC32.out _ hS'; go_simp⟩) hS0 ?_
              change wpAnyH _ _ _ _ _ _ _ (Act.put _ (some 107) (.agg #[.int .i64 f.width, .int .i64 f.room, .slice A32 n32 cap32, .int .i64 f.hits, .int .i64 f.misses, .int .i64 f.clashes, .int .i64 f.evicted])) _
              simp only [Act.put, List.setIfInBounds_toArray, List.set_cons_zero, List.set_cons_succ]
              refine wpAnyH_take (i := 2) (v := .agg #[.int .i64 f.width, .int .i64 f.room, .slice A32 n32 cap32, .int .i64 f.hits, .int .i64 f.misses, .int .i64 f.clashes, .int .i64 f.evicted]) rfl (by kernel_rfl) (by kernel_rfl) (by kernel_rfl) (fun _ _ _ h => h) (Or.inl ⟨by rfl, fun w' hS' => by obtain ⟨y0, y1, y2, y3, y4, y5, y6⟩ := HC32.out _ hS'; go_simp⟩) hS0 ?_
              change wpAnyH _ _ _ _ _ _ _ (Act.put _ (some 109) (.agg #[.int .i64 f.width, .int .i64 f.room, .slice A32 n32 cap32, .int .i64 f.hits, .int .i64 f.misses, .int .i64 f.clashes, .int .i64 f.evicted])) _
              simp only [Act.put, List.setIfInBounds_toArray, List.set_cons_zero, List.set_cons_succ]
              refine wpAnyH_ready (rs := [1]) (by kernel_rfl) (by simp) (AllReadyH.cons rfl (fun K hK => ?_) (AllReadyH.nil))
              · skip
                go_simp
                refine (rightC_any f A32 n32 cap32 _ bo HBO.out (HP32.out.up hS0) HN32.out HF32.out).mono ?_
                rintro e W1 ⟨rfl, hb3⟩
                refine hK.out _ _ (hS0.trans (hb3.mono hS0.size)) (fun hS2 => ?_)
                clear hK K
                simp only [List.setIfInBounds_toArray, List.set_cons_zero, List.set_cons_succ]
                refine wpAnyH_ready (rs := [3]) (by kernel_rfl) (by simp) (AllReadyH.cons rfl (fun K hK => ?_) (AllReadyH.nil))
                · skip
                  go_simp
                  refine (rrightC_any f A32 n32 cap32 _ bo HBO.out (HP32.out.up hS2) HN32.out HF32.out).mono ?_
                  rintro e W4 ⟨rfl, hb6⟩
                  refine hK.out _ _ (hS2.trans (hb6.mono hS2.size)) (fun hS5 => ?_)
                  clear hK K
                  simp only [List.setIfInBounds_toArray, List.set_cons_zero, List.set_cons_succ]
                  refine wpAnyH_take (i := 4) (v := .bool false) rfl (by kernel_rfl) (by kernel_rfl) (by kernel_rfl) (fun _ _ _ h => h) (Or.inl ⟨by rfl, fun w' hS' => by go_simp⟩) hS5 ?_
                  change wpAnyH _ _ _ _ _ _ _ (Act.put _ (some 111) (.bool false)) _
                  simp only [Act.put, List.setIfInBounds_toArray, List.set_cons_zero, List.set_cons_succ]
                  refine wpAnyH_take (i := 5) (v := .bool false) rfl (by kernel_rfl) (by kernel_rfl) (by kernel_rfl) (fun _ _ _ h => h) (Or.inl ⟨by rfl, fun w' hS' => by exact op_move rfl rfl⟩) hS5 ?_
                  change wpAnyH _ _ _ _ _ _ _ (Act.put _ (some 112) (.bool false)) _
                  simp only [Act.put, List.setIfInBounds_toArray, List.set_cons_zero, List.set_cons_succ]
                  refine wpAnyH_take (i := 6) (v := .agg #[.int .i64 f.width, .int .i64 f.room, .slice A32 n32 cap32, .int .i64 f.hits, .int .i64 f.misses, .int .i64 f.clashes, .int .i64 f.evicted]) rfl (by kernel_rfl) (by kernel_rfl) (by kernel_rfl) (fun _ _ _ h => h) (Or.inl ⟨by rfl, fun w' hS' => by obtain ⟨y0, y1, y2, y3, y4, y5, y6⟩ := HC32.out _ hS'; go_simp⟩) hS5 ?_
                  change wpAnyH _ _ _ _ _ _ _ (Act.put _ (some 113) (.agg #[.int .i64 f.width, .int .i64 f.room, .slice A32 n32 cap32, .int .i64 f.hits, .int .i64 f.misses, .int .i64 f.clashes, .int .i64 f.evicted])) _
                  simp only [Act.put, List.setIfInBounds_toArray, List.set_cons_zero, List.set_cons_succ]
                  refine wpAnyH_take (i := 8) (v := .agg #[.int .i64 f.width, .int .i64 f.room, .slice A32 n32 cap32, .int .i64 f.hits, .int .i64 f.misses, .int .i64 f.clashes, .int .i64 f.evicted]) rfl (by kernel_rfl) (by kernel_rfl) (by kernel_rfl) (fun _ _ _ h => h) (Or.inl ⟨by rfl, fun w' hS' => by obtain ⟨y0, y1, y2, y3, y4, y5, y6⟩ := HC32.out _ hS'; go_simp⟩) hS5 ?_
                  change wpAnyH _ _ _ _ _ _ _ (Act.put _ (some 115) (.agg #[.int .i64 f.width, .int .i64 f.room, .slice A32 n32 cap32, .int .i64 f.hits, .int .i64 f.misses, .int .i64 f.clashes, .int .i64 f.evicted])) _
                  simp only [Act.put, List.setIfInBounds_toArray, List.set_cons_zero, List.set_cons_succ]
                  refine wpAnyH_ready (rs := [7]) (by kernel_rfl) (by simp) (AllReadyH.cons rfl (fun K hK => ?_) (AllReadyH.nil))
                  · skip
                    go_simp
                    refine (sizeC_any f A32 n32 cap32 _ (HP32.out.up hS5) HN32.out HF32.out).mono ?_
                    rintro e W7 ⟨rfl, hb9⟩
                    refine hK.out _ _ (hS5.trans (hb9.mono hS5.size)) (fun hS8 => ?_)
                    clear hK K
                    simp only [List.setIfInBounds_toArray, List.set_cons_zero, List.set_cons_succ]
                    refine wpAnyH_ready (rs := [9]) (by kernel_rfl) (by simp) (AllReadyH.cons rfl (fun K hK => ?_) (AllReadyH.nil))
                    · skip
                      go_simp
                      refine (rsizeC_any f A32 n32 cap32 _ (HP32.out.up hS8) HN32.out HF32.out).mono ?_
                      rintro e W10 ⟨rfl, hb12⟩
                      refine hK.out _ _ (hS8.trans (hb12.mono hS8.size)) (fun hS11 => ?_)
                      clear hK K
                      simp only [List.setIfInBounds_toArray, List.set_cons_zero, List.set_cons_succ]
                      refine wpAnyH_take (i := 10) (v := .bool false) rfl (by kernel_rfl) (by kernel_rfl) (by kernel_rfl) (fun _ _ _ h => h) (Or.inl ⟨by rfl, fun w' hS' => by go_simp⟩) hS11 ?_
                      change wpAnyH _ _ _ _ _ _ _ (Act.put _ (some 117) (.bool false)) _
                      simp only [Act.put, List.setIfInBounds_toArray, List.set_cons_zero, List.set_cons_succ]
                      refine wpAnyH_take (i := 11) (v := .bool false) rfl (by kernel_rfl) (by kernel_rfl) (by kernel_rfl) (fun _ _ _ h => h) (Or.inl ⟨by rfl, fun w' hS' => by go_simp⟩) hS11 ?_
                      change wpAnyH _ _ _ _ _ _ _ (Act.put _ (some 118) (.bool false)) _
                      simp only [Act.put, List.setIfInBounds_toArray, List.set_cons_zero, List.set_cons_succ]
                      refine wpAnyH_done (by kernel_rfl) ?_ _
                      refine NoPanic.normal ?_
                      go_wp2_with fail
                      go_meet
                      exact ⟨rfl, hS11⟩
            case rest =>
              obtain ⟨rfl, hbw⟩ := hcut
              obtain ⟨v29, rfl⟩ : ∃ xw, xw = wc := ⟨_, rfl⟩
              have HB21 := Lib.hid (Blk.below HB21.out hbw HB21.out.lt)
              have HW := Lib.hid (below_step HW.out hbw)
              have HI2 := Lib.hid (below_step HI2.out hbw)
              have HP32 := Lib.hid (HP32.out.up hbw)
              have HB32 := Lib.hid (Blk.below HB32.out hbw HB32.out.lt)
              clear hbw HC32 nbo nsz HBO
              go_upto_region 16 with (fail)
              have HC21 : Hid (∀ W, Below v29.heap.size v29 W → W.cell? ⟨g21, 0, none⟩ = some (.int .i64 a10) ∧ W.cell? ⟨g21, 1, none⟩ = some (.int .i64 b10) ∧ W.cell? ⟨g21, 2, none⟩ = some (.int .i64 e10)) := Lib.hid fun W hW => ⟨(Blk.below HB21.out hW HB21.out.lt).cell 0, (Blk.below HB21.out hW HB21.out.lt).cell 1, (Blk.below HB21.out hW HB21.out.lt).cell 2⟩
              go_cut [145, 146, 147] (fun s145 s146 s147 wx => TxtCut v29 s145 s146 s147 wx)
              case first =>
                refine wp_region_noPanic ?_
                refine wp_region_held_drew (S := fun W => Below v29.heap.size v29 W) (by kernel_rfl) ((Below.refl v29.heap.size v29).drew) (fun hS0 => ?_)
                change wpAnyH _ _ _ _ _ 29 #[false, false, false, false, false, false, false, false, false, false, false, false, false, false, false, false, false, false, false, false, false, false, false, false, false, false, false, false, false] _ (World.drew _)
                refine wpAnyH_take (i := 0) (v := .string s7) rfl (by kernel_rfl) (by kernel_rfl) (by kernel_rfl) (fun _ _ _ h => h) (Or.inl ⟨by rfl, fun w' hS' => by exact op_move rfl rfl⟩) hS0 ?_
                change wpAnyH _ _ _ _ _ _ _ (Act.put _ (some 119) (.string s7)) _
                simp only [Act.put, List.setIfInBounds_toArray, List.set_cons_zero, List.set_cons_succ]
                refine wpAnyH_take (i := 1) (v := .string s7) rfl (by kernel_rfl) (by kernel_rfl) (by kernel_rfl) (fun _ _ _ h => h) (Or.inl ⟨by rfl, fun w' hS' => by exact op_move rfl rfl⟩) hS0 ?_
                change wpAnyH _ _ _ _ _ _ _ (Act.put _ (some 120) (.string s7)) _
                simp only [Act.put, List.setIfInBounds_toArray, List.set_cons_zero, List.set_cons_succ]
                refine wpAnyH_take (i := 2) (v := .int .i64 (s7.size : Int)) rfl (by kernel_rfl) (by kernel_rfl) (by kernel_rfl) (fun _ _ _ h => h) (Or.inl ⟨by rfl, fun w' hS' => by go_simp⟩) hS0 ?_
                change wpAnyH _ _ _ _ _ _ _ (Act.put _ (some 121) (.int .i64 (s7.size : Int))) _
                simp only [Act.put, List.setIfInBounds_toArray, List.set_cons_zero, List.set_cons_succ]
                refine wpAnyH_take (i := 3) (v := .int .i64 (min (s7.size : Int) 40)) rfl (by kernel_rfl) (by kernel_rfl) (by kernel_rfl) (fun _ _ _ h => h) (Or.inl ⟨by rfl, fun w' hS' => by go_simp⟩) hS0 ?_
                change wpAnyH _ _ _ _ _ _ _ (Act.put _ (some 122) (.int .i64 (min (s7.size : Int) 40))) _
                simp only [Act.put, List.setIfInBounds_toArray, List.set_cons_zero, List.set_cons_succ]
                refine wpAnyH_take (i := 4) (v := .string (s7.extract 0 (min (s7.size : Int) 40).toNat)) rfl (by kernel_rfl) (by kernel_rfl) (by kernel_rfl) (fun _ _ _ h => h) (Or.inl ⟨by rfl, fun w' hS' => by go_simp; intro h; exact absurd (h (by omega)) (by omega)⟩) hS0 ?_
                change wpAnyH _ _ _ _ _ _ _ (Act.put _ (some 123) (.string (s7.extract 0 (min (s7.size : Int) 40).toNat))) _
                simp only [Act.put, List.setIfInBounds_toArray, List.set_cons_zero, List.set_cons_succ]
                refine wpAnyH_take (i := 5) (v := .string s8) rfl (by kernel_rfl) (by kernel_rfl) (by kernel_rfl) (fun _ _ _ h => h) (Or.inl ⟨by rfl, fun w' hS' => by exact op_move rfl rfl⟩) hS0 ?_
                change wpAnyH _ _ _ _ _ _ _ (Act.put _ (some 124) (.string s8)) _
                simp only [Act.put, List.setIfInBounds_toArray, List.set_cons_zero, List.set_cons_succ]
                refine wpAnyH_take (i := 6) (v := .string s8) rfl (by kernel_rfl) (by kernel_rfl) (by kernel_rfl) (fun _ _ _ h => h) (Or.inl ⟨by rfl, fun w' hS' => by exact op_move rfl rfl⟩) hS0 ?_
                change wpAnyH _ _ _ _ _ _ _ (Act.put _ (some 125) (.string s8)) _
                simp only [Act.put, List.setIfInBounds_toArray, List.set_cons_zero, List.set_cons_succ]
                refine wpAnyH_take (i := 7) (v := .int .i64 (s8.size : Int)) rfl (by kernel_rfl) (by kernel_rfl) (by kernel_rfl) (fun _ _ _ h => h) (Or.inl ⟨by rfl, fun w' hS' => by go_simp⟩) hS0 ?_
                change wpAnyH _ _ _ _ _ _ _ (Act.put _ (some 126) (.int .i64 (s8.size : Int))) _
                simp only [Act.put, List.setIfInBounds_toArray, List.set_cons_zero, List.set_cons_succ]
                refine wpAnyH_take (i := 8) (v := .int .i64 (min (s8.size : Int) 40)) rfl (by kernel_rfl) (by kernel_rfl) (by kernel_rfl) (fun _ _ _ h => h) (Or.inl ⟨by rfl, fun w' hS' => by go_simp⟩) hS0 ?_
                change wpAnyH _ _ _ _ _ _ _ (Act.put _ (some 127) (.int .i64 (min (s8.size : Int) 40))) _
                simp only [Act.put, List.setIfInBounds_toArray, List.set_cons_zero, List.set_cons_succ]
                refine wpAnyH_take (i := 9) (v := .string (s8.extract 0 (min (s8.size : Int) 40).toNat)) rfl (by kernel_rfl) (by kernel_rfl) (by kernel_rfl) (fun _ _ _ h => h) (Or.inl ⟨by rfl, fun w' hS' => by go_simp; intro h; exact absurd (h (by omega)) (by omega)⟩) hS0 ?_
                change wpAnyH _ _ _ _ _ _ _ (Act.put _ (some 128) (.string (s8.extract 0 (min (s8.size : Int) 40).toNat))) _
                simp only [Act.put, List.setIfInBounds_toArray, List.set_cons_zero, List.set_cons_succ]
                refine wpAnyH_take (i := 10) (v := .string s9) rfl (by kernel_rfl) (by kernel_rfl) (by kernel_rfl) (fun _ _ _ h => h) (Or.inl ⟨by rfl, fun w' hS' => by exact op_move rfl rfl⟩) hS0 ?_
                change wpAnyH _ _ _ _ _ _ _ (Act.put _ (some 129) (.string s9)) _
                simp only [Act.put, List.setIfInBounds_toArray, List.set_cons_zero, List.set_cons_succ]
                refine wpAnyH_take (i := 11) (v := .string s9) rfl (by kernel_rfl) (by kernel_rfl) (by kernel_rfl) (fun _ _ _ h => h) (Or.inl ⟨by rfl, fun w' hS' => by exact op_move rfl rfl⟩) hS0 ?_
                change wpAnyH _ _ _ _ _ _ _ (Act.put _ (some 130) (.string s9)) _
                simp only [Act.put, List.setIfInBounds_toArray, List.set_cons_zero, List.set_cons_succ]
                refine wpAnyH_take (i := 12) (v := .int .i64 (s9.size : Int)) rfl (by kernel_rfl) (by kernel_rfl) (by kernel_rfl) (fun _ _ _ h => h) (Or.inl ⟨by rfl, fun w' hS' => by go_simp⟩) hS0 ?_
                change wpAnyH _ _ _ _ _ _ _ (Act.put _ (some 131) (.int .i64 (s9.size : Int))) _
                simp only [Act.put, List.setIfInBounds_toArray, List.set_cons_zero, List.set_cons_succ]
                refine wpAnyH_take (i := 13) (v := .int .i64 (min (s9.size : Int) 40)) rfl (by kernel_rfl) (by kernel_rfl) (by kernel_rfl) (fun _ _ _ h => h) (Or.inl ⟨by rfl, fun w' hS' => by go_simp⟩) hS0 ?_
                change wpAnyH _ _ _ _ _ _ _ (Act.put _ (some 132) (.int .i64 (min (s9.size : Int) 40))) _
                simp only [Act.put, List.setIfInBounds_toArray, List.set_cons_zero, List.set_cons_succ]
                refine wpAnyH_take (i := 14) (v := .string (s9.extract 0 (min (s9.size : Int) 40).toNat)) rfl (by kernel_rfl) (by kernel_rfl) (by kernel_rfl) (fun _ _ _ h => h) (Or.inl ⟨by rfl, fun w' hS' => by go_simp; intro h; exact absurd (h (by omega)) (by omega)⟩) hS0 ?_
                change wpAnyH _ _ _ _ _ _ _ (Act.put _ (some 133) (.string (s9.extract 0 (min (s9.size : Int) 40).toNat))) _
                simp only [Act.put, List.setIfInBounds_toArray, List.set_cons_zero, List.set_cons_succ]
                refine wpAnyH_take (i := 15) (v := .agg #[.string (s7.extract 0 (min (s7.size : Int) 40).toNat), .string (s8.extract 0 (min (s8.size : Int) 40).toNat), .string (s9.extract 0 (min (s9.size : Int) 40).toNat)]) rfl (by kernel_rfl) (by kernel_rfl) (by kernel_rfl) (fun _ _ _ h => h) (Or.inl ⟨by rfl, fun w' hS' => by go_simp⟩) hS0 ?_
                change wpAnyH _ _ _ _ _ _ _ (Act.put _ (some 134) (.agg #[.string (s7.extract 0 (min (s7.size : Int) 40).toNat), .string (s8.extract 0 (min (s8.size : Int) 40).toNat), .string (s9.extract 0 (min (s9.size : Int) 40).toNat)])) _
                simp only [Act.put, List.setIfInBounds_toArray, List.set_cons_zero, List.set_cons_succ]
                refine wpAnyH_take (i := 16) (v := .pointer (some ⟨g21, 0, none⟩)) rfl (by kernel_rfl) (by kernel_rfl) (by kernel_rfl) (fun _ _ _ h => h) (Or.inl ⟨by rfl, fun w' hS' => by go_simp⟩) hS0 ?_
                change wpAnyH _ _ _ _ _ _ _ (Act.put _ (some 135) (.pointer (some ⟨g21, 0, none⟩))) _
                simp only [Act.put, List.setIfInBounds_toArray, List.set_cons_zero, List.set_cons_succ]
                refine wpAnyH_take (i := 17) (v := .int .i64 a10) rfl (by kernel_rfl) (by kernel_rfl) (by kernel_rfl) (fun _ _ _ h => h) (Or.inl ⟨by rfl, fun w' hS' => by obtain ⟨t0, t1, t2⟩ := HC21.out _ hS'; go_simp⟩) hS0 ?_
                change wpAnyH _ _ _ _ _ _ _ (Act.put _ (some 136) (.int .i64 a10)) _
                simp only [Act.put, List.setIfInBounds_toArray, List.set_cons_zero, List.set_cons_succ]
                refine wpAnyH_take (i := 19) (v := .pointer (some ⟨g21, 1, none⟩)) rfl (by kernel_rfl) (by kernel_rfl) (by kernel_rfl) (fun _ _ _ h => h) (Or.inl ⟨by rfl, fun w' hS' => by go_simp⟩) hS0 ?_
                change wpAnyH _ _ _ _ _ _ _ (Act.put _ (some 138) (.pointer (some ⟨g21, 1, none⟩))) _
                simp only [Act.put, List.setIfInBounds_toArray, List.set_cons_zero, List.set_cons_succ]
                refine wpAnyH_take (i := 20) (v := .int .i64 b10) rfl (by kernel_rfl) (by kernel_rfl) (by kernel_rfl) (fun _ _ _ h => h) (Or.inl ⟨by rfl, fun w' hS' => by obtain ⟨t0, t1, t2⟩ := HC21.out _ hS'; go_simp⟩) hS0 ?_
                change wpAnyH _ _ _ _ _ _ _ (Act.put _ (some 139) (.int .i64 b10)) _
                simp only [Act.put, List.setIfInBounds_toArray, List.set_cons_zero, List.set_cons_succ]
                refine wpAnyH_take (i := 22) (v := .pointer (some ⟨g21, 2, none⟩)) rfl (by kernel_rfl) (by kernel_rfl) (by kernel_rfl) (fun _ _ _ h => h) (Or.inl ⟨by rfl, fun w' hS' => by go_simp⟩) hS0 ?_
                change wpAnyH _ _ _ _ _ _ _ (Act.put _ (some 141) (.pointer (some ⟨g21, 2, none⟩))) _
                simp only [Act.put, List.setIfInBounds_toArray, List.set_cons_zero, List.set_cons_succ]
                refine wpAnyH_take (i := 23) (v := .int .i64 e10) rfl (by kernel_rfl) (by kernel_rfl) (by kernel_rfl) (fun _ _ _ h => h) (Or.inl ⟨by rfl, fun w' hS' => by obtain ⟨t0, t1, t2⟩ := HC21.out _ hS'; go_simp⟩) hS0 ?_
                change wpAnyH _ _ _ _ _ _ _ (Act.put _ (some 142) (.int .i64 e10)) _
                simp only [Act.put, List.setIfInBounds_toArray, List.set_cons_zero, List.set_cons_succ]
                refine wpAnyH_take (i := 28) (v := .int .i64 0) rfl (by kernel_rfl) (by kernel_rfl) (by kernel_rfl) (fun _ _ _ h => h) (Or.inl ⟨by rfl, fun w' hS' => by exact op_move rfl rfl⟩) hS0 ?_
                change wpAnyH _ _ _ _ _ _ _ (Act.put _ (some 147) (.int .i64 0)) _
                simp only [Act.put, List.setIfInBounds_toArray, List.set_cons_zero, List.set_cons_succ]
                refine wpAnyH_ready (rs := [18]) (by kernel_rfl) (by simp) (AllReadyH.cons rfl (fun K hK => ?_) (AllReadyH.nil))
                · skip
                  go_simp
                  refine (text_any a10 _ HT10.out.1).mono ?_
                  rintro e W1 ⟨rfl, hb3⟩
                  refine hK.out _ _ (hS0.trans (hb3.mono hS0.size)) (fun hS2 => ?_)
                  clear hK K
                  simp only [List.setIfInBounds_toArray, List.set_cons_zero, List.set_cons_succ]
                  refine wpAnyH_ready (rs := [21]) (by kernel_rfl) (by simp) (AllReadyH.cons rfl (fun K hK => ?_) (AllReadyH.nil))
                  · skip
                    go_simp
                    refine (text_any b10 _ HT10.out.2.1).mono ?_
                    rintro e W4 ⟨rfl, hb6⟩
                    refine hK.out _ _ (hS2.trans (hb6.mono hS2.size)) (fun hS5 => ?_)
                    clear hK K
                    simp only [List.setIfInBounds_toArray, List.set_cons_zero, List.set_cons_succ]
                    refine wpAnyH_ready (rs := [24]) (by kernel_rfl) (by simp) (AllReadyH.cons rfl (fun K hK => ?_) (AllReadyH.nil))
                    · skip
                      go_simp
                      refine (text_any e10 _ HT10.out.2.2).mono ?_
                      rintro e W7 ⟨rfl, hb9⟩
                      refine hK.out _ _ (hS5.trans (hb9.mono hS5.size)) (fun hS8 => ?_)
                      clear hK K
                      simp only [List.setIfInBounds_toArray, List.set_cons_zero, List.set_cons_succ]
                      refine wpAnyH_take (i := 25) (v := .agg #[.string (textOf a10), .string (textOf b10), .string (textOf e10)]) rfl (by kernel_rfl) (by kernel_rfl) (by kernel_rfl) (fun _ _ _ h => h) (Or.inl ⟨by rfl, fun w' hS' => by go_simp⟩) hS8 ?_
                      change wpAnyH _ _ _ _ _ _ _ (Act.put _ (some 144) (.agg #[.string (textOf a10), .string (textOf b10), .string (textOf e10)])) _
                      simp only [Act.put, List.setIfInBounds_toArray, List.set_cons_zero, List.set_cons_succ]
                      refine wpAnyH_ready (rs := [26]) (by kernel_rfl) (by simp) (AllReadyH.cons rfl (fun K hK => ?_) (AllReadyH.nil))
                      · skip
                        obtain ⟨gs16, W10, hr13, hk14, hb12⟩ := op_texts2 (s7.extract 0 (min (s7.size : Int) 40).toNat) (s8.extract 0 (min (s8.size : Int) 40).toNat) (s9.extract 0 (min (s9.size : Int) 40).toNat) (textOf a10) (textOf b10) (textOf e10) W7
                        refine step_op_run (hr13 _ _ _ _ rfl rfl rfl) rfl ?_
                        refine hK.out _ _ (hS8.trans (hb12.mono hS8.size)) (fun hS11 => ?_)
                        clear hK K
                        change wpAnyH _ _ _ _ _ _ _ (Act.put _ (some 145) (.slice (some ⟨gs16, 0, none⟩) 2 2)) _
                        simp only [Act.put, List.setIfInBounds_toArray, List.set_cons_zero, List.set_cons_succ]
                        refine wpAnyH_take (i := 27) (v := .int .i64 2) rfl (by kernel_rfl) (by kernel_rfl) (by kernel_rfl) (fun _ _ _ h => h) (Or.inl ⟨by rfl, fun w' hS' => by go_simp⟩) hS11 ?_
                        change wpAnyH _ _ _ _ _ _ _ (Act.put _ (some 146) (.int .i64 2)) _
                        simp only [Act.put, List.setIfInBounds_toArray, List.set_cons_zero, List.set_cons_succ]
                        refine wpAnyH_done (by kernel_rfl) ?_ _
                        refine NoPanic.normal ?_
                        go_wp2_with fail
                        go_meet
                        exact ⟨_, rfl, rfl, rfl, txsAt_two hk14 (cut40 s7) (cut40 s8) (cut40 s9) (text_le _) (text_le _) (text_le _), hS11⟩
              case rest =>
                obtain ⟨aX, rfl, rfl, rfl, hcs, hbw⟩ := hcut
                obtain ⟨v30, rfl⟩ : ∃ xw, xw = wc := ⟨_, rfl⟩
                have HB21 := Lib.hid (Blk.below HB21.out hbw HB21.out.lt)
                have HW := Lib.hid (below_step HW.out hbw)
                have HI2 := Lib.hid (below_step HI2.out hbw)
                have HP32 := Lib.hid (HP32.out.up hbw)
                have HB32 := Lib.hid (Blk.below HB32.out hbw HB32.out.lt)
                have HTX := Lib.hid hcs
                clear hcs hbw HC21
                go_wp2_with fail
                go_loopw [147] (fun sl wr => ∃ j : Nat, j ≤ 2 ∧ sl = .int .i64 j ∧ Hid (Below v30.heap.size v30 wr)) (fun sl _ => 2 - (intOf sl).toNat)
                case atStart => exact ⟨0, by omega, rfl, Lib.hid (Below.refl _ _)⟩
                case round =>
                  obtain ⟨j, hkj, rfl, HI3⟩ := hrel
                  obtain ⟨v31, rfl⟩ : ∃ xw, xw = wr := ⟨_, rfl⟩
                  have HB21 := Lib.hid (Blk.below HB21.out HI3.out HB21.out.lt)
                  have HW := Lib.hid (below_step HW.out HI3.out)
                  have HI2 := Lib.hid (below_step HI2.out HI3.out)
                  have HP32 := Lib.hid (HP32.out.up HI3.out)
                  have HB32 := Lib.hid (Blk.below HB32.out HI3.out HB32.out.lt)
                  by_cases gj : j < 2
                  case neg =>
                    go_wp2_with fail
                    go_roundw
                    case rel => exact ⟨k + 1, by omega, by go_num, HI2⟩
                    case measure => simp [intOf]; omega
                  case pos =>
                    obtain ⟨l, r, v, hl, hr, hv, hcell⟩ := HTX.out j gj
                    obtain ⟨t0, t1, t2⟩ := hcell _ HI3.out
                    obtain ⟨s1, d1, b1, hg1⟩ : ∃ s d b, getC f l r = (s, d, b) := ⟨_, _, _, rfl⟩
                    obtain ⟨d2, b2, hg2⟩ : ∃ d b, putC f l r v = (d, b) := ⟨_, _, rfl⟩
                    have HGM := Lib.hid hg1
                    have HPM := Lib.hid hg2
                    have HD1 : Hid (CaFit d1) := Lib.hid (by have := HSM.out.get l r; rw [hg1] at this; exact this)
                    have HD2 : Hid (CaFit d2) := Lib.hid (by have := HSM.out.put l r v hl hr hv; rw [hg2] at this; exact this)
                    have HLE : Hid (l.size ≤ 4096 ∧ r.size ≤ 4096 ∧ v.size ≤ 4096) := Lib.hid ⟨hl, hr, hv⟩
                    have nb1 : (b1 != b1) = false := by simp
                    have nb2 : (b2 != b2) = false := by simp
                    clear hl hr hv hcell hg1 hg2
                    go_upto_region 19 with (fail)
                    have hbx : Blk (v31.alloc (.cells #[.string l, .string r, .string v] 38)) v31.heap.size 38 #[.string l, .string r, .string v] := Blk.new v31 _ _
                    have hb : Below v31.heap.size v31 (v31.alloc (.cells #[.string l, .string r, .string v] 38)) := (Below.refl _ _).alloc (Nat.le_refl _) _
                    obtain ⟨v32, hw⟩ : ∃ xw, xw = v31.alloc (.cells #[.string l, .string r, .string v] 38) := ⟨_, rfl⟩
                    obtain ⟨g34, hg⟩ : ∃ g, g = v31.heap.size := ⟨_, rfl⟩
                    rw [← hw] at hbx hb ⊢
                    rw [← hg] at hbx ⊢
                    have HB34 := Lib.hid hbx
                    have HB21 := Lib.hid (Blk.below HB21.out hb HB21.out.lt)
                    have HW := Lib.hid (below_step HW.out hb)
                    have HI2 := Lib.hid (below_step HI2.out hb)
                    have HP32 := Lib.hid (HP32.out.up hb)
                    have HB32 := Lib.hid (Blk.below HB32.out hb HB32.out.lt)
                    have HI3 := Lib.hid (below_step HI3.out hb)
                    clear hbx hb hw hg t0 t1 t2
                    obtain ⟨y0, y1, y2, y3, y4, y5, y6⟩ := box7 HB32.out (Below.refl _ _)
                    have x0 := Blk.cell HB34.out 0
                    have x1 := Blk.cell HB34.out 1
                    have x2 := Blk.cell HB34.out 2
                    simp only [List.getElem?_toArray, List.getElem?_cons_zero, List.getElem?_cons_succ] at x0 x1 x2
                    go_wp2_with fail
                    refine (getC_any f A32 n32 cap32 l r _ s1 d1 b1 HGM.out (fun _ => False) (fun _ h => h.elim) HP32.out HN32.out HF32.out HLE.out.1 HLE.out.2.1).mono ?_
                    rintro e v33 ⟨A36, n36, cap36, rfl, hn, hp, hb, hc⟩
                    have HB21 := Lib.hid (Blk.below HB21.out hb HB21.out.lt)
                    have HW := Lib.hid (below_step HW.out hb)
                    have HI2 := Lib.hid (below_step HI2.out hb)
                    have HP32 := Lib.hid (HP32.out.up hb)
                    have HB32 := Lib.hid (Blk.below HB32.out hb HB32.out.lt)
                    have HI3 := Lib.hid (below_step HI3.out hb)
                    have HB34 := Lib.hid (Blk.below HB34.out hb HB34.out.lt)
                    have HN36 := Lib.hid hn
                    have HP36 := Lib.hid hp
                    have HK36 := Lib.hid hc
                    clear hb hn hp hc y0 y1 y2 y3 y4 y5 y6 x0 x1 x2
                    go_upto_region 20 with (fail)
                    have hbx : Blk (v33.alloc (.cells #[.int .i64 d1.width, .int .i64 d1.room, .slice A36 n36 cap36, .int .i64 d1.hits, .int .i64 d1.misses, .int .i64 d1.clashes, .int .i64 d1.evicted] 28)) v33.heap.size 28 #[.int .i64 d1.width, .int .i64 d1.room, .slice A36 n36 cap36, .int .i64 d1.hits, .int .i64 d1.misses, .int .i64 d1.clashes, .int .i64 d1.evicted] := Blk.new v33 _ _
                    have hb : Below v33.heap.size v33 (v33.alloc (.cells #[.int .i64 d1.width, .int .i64 d1.room, .slice A36 n36 cap36, .int .i64 d1.hits, .int .i64 d1.misses, .int .i64 d1.clashes, .int .i64 d1.evicted] 28)) := (Below.refl _ _).alloc (Nat.le_refl _) _
                    obtain ⟨v34, hw⟩ : ∃ xw, xw = v33.alloc (.cells #[.int .i64 d1.width, .int .i64 d1.room, .slice A36 n36 cap36, .int .i64 d1.hits, .int .i64 d1.misses, .int .i64 d1.clashes, .int .i64 d1.evicted] 28) := ⟨_, rfl⟩
                    obtain ⟨g36, hg⟩ : ∃ g, g = v33.heap.size := ⟨_, rfl⟩
                    rw [← hw] at hbx hb ⊢
                    rw [← hg] at hbx ⊢
                    have HB36 := Lib.hid hbx
                    have HB21 := Lib.hid (Blk.below HB21.out hb HB21.out.lt)
                    have HW := Lib.hid (below_step HW.out hb)
                    have HI2 := Lib.hid (below_step HI2.out hb)
                    have HP32 := Lib.hid (HP32.out.up hb)
                    have HB32 := Lib.hid (Blk.below HB32.out hb HB32.out.lt)
                    have HI3 := Lib.hid (below_step HI3.out hb)
                    have HB34 := Lib.hid (Blk.below HB34.out hb HB34.out.lt)
                    have HP36 := Lib.hid (HP36.out.up hb)
                    clear hbx hb hw hg
                    obtain ⟨y0, y1, y2, y3, y4, y5, y6⟩ := box7 HB32.out (Below.refl _ _)
                    have x0 := Blk.cell HB34.out 0
                    have x1 := Blk.cell HB34.out 1
                    have x2 := Blk.cell HB34.out 2
                    simp only [List.getElem?_toArray, List.getElem?_cons_zero, List.getElem?_cons_succ] at x0 x1 x2
                    go_wp2_with fail
                    refine (rgetC_any f A32 n32 cap32 l r _ s1 d1 b1 HGM.out (fun _ => False) (fun _ h => h.elim) HP32.out HN32.out HK32.out HF32.out HLE.out.1 HLE.out.2.1).mono ?_
                    rintro e v35 ⟨A39, n39, cap39, rfl, hn, hp, hb, hc⟩
                    have HB21 := Lib.hid (Blk.below HB21.out hb HB21.out.lt)
                    have HW := Lib.hid (below_step HW.out hb)
                    have HI2 := Lib.hid (below_step HI2.out hb)
                    have HP32 := Lib.hid (HP32.out.up hb)
                    have HB32 := Lib.hid (Blk.below HB32.out hb HB32.out.lt)
                    have HI3 := Lib.hid (below_step HI3.out hb)
                    have HB34 := Lib.hid (Blk.below HB34.out hb HB34.out.lt)
                    have HP36 := Lib.hid (HP36.out.up hb)
                    have HB36 := Lib.hid (Blk.below HB36.out hb HB36.out.lt)
                    have HN39 := Lib.hid hn
                    have HP39 := Lib.hid hp
                    have HK39 := Lib.hid hc
                    clear hb hn hp hc y0 y1 y2 y3 y4 y5 y6 x0 x1 x2
                    go_upto_region 21 with (fail)
                    have hbx : Blk (v35.alloc (.cells #[.int .i64 d1.width, .int .i64 d1.room, .slice A39 n39 cap39, .int .i64 d1.hits, .int .i64 d1.misses, .int .i64 d1.clashes, .int .i64 d1.evicted] 28)) v35.heap.size 28 #[.int .i64 d1.width, .int .i64 d1.room, .slice A39 n39 cap39, .int .i64 d1.hits, .int .i64 d1.misses, .int .i64 d1.clashes, .int .i64 d1.evicted] := Blk.new v35 _ _
                    have hb : Below v35.heap.size v35 (v35.alloc (.cells #[.int .i64 d1.width, .int .i64 d1.room, .slice A39 n39 cap39, .int .i64 d1.hits, .int .i64 d1.misses, .int .i64 d1.clashes, .int .i64 d1.evicted] 28)) := (Below.refl _ _).alloc (Nat.le_refl _) _
                    obtain ⟨v36, hw⟩ : ∃ xw, xw = v35.alloc (.cells #[.int .i64 d1.width, .int .i64 d1.room, .slice A39 n39 cap39, .int .i64 d1.hits, .int .i64 d1.misses, .int .i64 d1.clashes, .int .i64 d1.evicted] 28) := ⟨_, rfl⟩
                    obtain ⟨g39, hg⟩ : ∃ g, g = v35.heap.size := ⟨_, rfl⟩
                    rw [← hw] at hbx hb ⊢
                    rw [← hg] at hbx ⊢
                    have HB39 := Lib.hid hbx
                    have HB21 := Lib.hid (Blk.below HB21.out hb HB21.out.lt)
                    have HW := Lib.hid (below_step HW.out hb)
                    have HI2 := Lib.hid (below_step HI2.out hb)
                    have HP32 := Lib.hid (HP32.out.up hb)
                    have HB32 := Lib.hid (Blk.below HB32.out hb HB32.out.lt)
                    have HI3 := Lib.hid (below_step HI3.out hb)
                    have HB34 := Lib.hid (Blk.below HB34.out hb HB34.out.lt)
                    have HP36 := Lib.hid (HP36.out.up hb)
                    have HB36 := Lib.hid (Blk.below HB36.out hb HB36.out.lt)
                    have HP39 := Lib.hid (HP39.out.up hb)
                    clear hbx hb hw hg
                    obtain ⟨y0, y1, y2, y3, y4, y5, y6⟩ := box7 HB32.out (Below.refl _ _)
                    have x0 := Blk.cell HB34.out 0
                    have x1 := Blk.cell HB34.out 1
                    have x2 := Blk.cell HB34.out 2
                    simp only [List.getElem?_toArray, List.getElem?_cons_zero, List.getElem?_cons_succ] at x0 x1 x2
                    go_wp2_with fail
                    refine (putC_any f A32 n32 cap32 l r v _ d2 b2 HPM.out (fun _ => False) (fun _ h => h.elim) HP32.out HN32.out HF32.out HLE.out.1 HLE.out.2.1 HLE.out.2.2).mono ?_
                    rintro e v37 ⟨A41, n41, cap41, rfl, hn, hp, hb, hc⟩
                    have HB21 := Lib.hid (Blk.below HB21.out hb HB21.out.lt)
                    have HW := Lib.hid (below_step HW.out hb)
                    have HI2 := Lib.hid (below_step HI2.out hb)
                    have HP32 := Lib.hid (HP32.out.up hb)
                    have HB32 := Lib.hid (Blk.below HB32.out hb HB32.out.lt)
                    have HI3 := Lib.hid (below_step HI3.out hb)
                    have HB34 := Lib.hid (Blk.below HB34.out hb HB34.out.lt)
                    have HP36 := Lib.hid (HP36.out.up hb)
                    have HB36 := Lib.hid (Blk.below HB36.out hb HB36.out.lt)
                    have HP39 := Lib.hid (HP39.out.up hb)
                    have HB39 := Lib.hid (Blk.below HB39.out hb HB39.out.lt)
                    have HN41 := Lib.hid hn
                    have HP41 := Lib.hid hp
                    have HK41 := Lib.hid hc
                    clear hb hn hp hc y0 y1 y2 y3 y4 y5 y6 x0 x1 x2
                    go_upto_region 22 with (fail)
                    have hbx : Blk (v37.alloc (.cells #[.int .i64 d2.width, .int .i64 d2.room, .slice A41 n41 cap41, .int .i64 d2.hits, .int .i64 d2.misses, .int .i64 d2.clashes, .int .i64 d2.evicted] 28)) v37.heap.size 28 #[.int .i64 d2.width, .int .i64 d2.room, .slice A41 n41 cap41, .int .i64 d2.hits, .int .i64 d2.misses, .int .i64 d2.clashes, .int .i64 d2.evicted] := Blk.new v37 _ _
                    have hb : Below v37.heap.size v37 (v37.alloc (.cells #[.int .i64 d2.width, .int .i64 d2.room, .slice A41 n41 cap41, .int .i64 d2.hits, .int .i64 d2.misses, .int .i64 d2.clashes, .int .i64 d2.evicted] 28)) := (Below.refl _ _).alloc (Nat.le_refl _) _
                    obtain ⟨v38, hw⟩ : ∃ xw, xw = v37.alloc (.cells #[.int .i64 d2.width, .int .i64 d2.room, .slice A41 n41 cap41, .int .i64 d2.hits, .int .i64 d2.misses, .int .i64 d2.clashes, .int .i64 d2.evicted] 28) := ⟨_, rfl⟩
                    obtain ⟨g41, hg⟩ : ∃ g, g = v37.heap.size := ⟨_, rfl⟩
                    rw [← hw] at hbx hb ⊢
                    rw [← hg] at hbx ⊢
                    have HB41 := Lib.hid hbx
                    have HB21 := Lib.hid (Blk.below HB21.out hb HB21.out.lt)
                    have HW := Lib.hid (below_step HW.out hb)
                    have HI2 := Lib.hid (below_step HI2.out hb)
                    have HP32 := Lib.hid (HP32.out.up hb)
                    have HB32 := Lib.hid (Blk.below HB32.out hb HB32.out.lt)
                    have HI3 := Lib.hid (below_step HI3.out hb)
                    have HB34 := Lib.hid (Blk.below HB34.out hb HB34.out.lt)
                    have HP36 := Lib.hid (HP36.out.up hb)
                    have HB36 := Lib.hid (Blk.below HB36.out hb HB36.out.lt)
                    have HP39 := Lib.hid (HP39.out.up hb)
                    have HB39 := Lib.hid (Blk.below HB39.out hb HB39.out.lt)
                    have HP41 := Lib.hid (HP41.out.up hb)
                    clear hbx hb hw hg
                    obtain ⟨y0, y1, y2, y3, y4, y5, y6⟩ := box7 HB32.out (Below.refl _ _)
                    have x0 := Blk.cell HB34.out 0
                    have x1 := Blk.cell HB34.out 1
                    have x2 := Blk.cell HB34.out 2
                    simp only [List.getElem?_toArray, List.getElem?_cons_zero, List.getElem?_cons_succ] at x0 x1 x2
                    go_wp2_with fail
                    refine (rputC_any f A32 n32 cap32 l r v _ d2 b2 HPM.out (fun _ => False) (fun _ h => h.elim) HP32.out HN32.out HK32.out HF32.out HLE.out.1 HLE.out.2.1).mono ?_
                    rintro e v39 ⟨A43, n43, cap43, rfl, hn, hp, hb, hc⟩
                    have HB21 := Lib.hid (Blk.below HB21.out hb HB21.out.lt)
                    have HW := Lib.hid (below_step HW.out hb)
                    have HI2 := Lib.hid (below_step HI2.out hb)
                    have HP32 := Lib.hid (HP32.out.up hb)
                    have HB32 := Lib.hid (Blk.below HB32.out hb HB32.out.lt)
                    have HI3 := Lib.hid (below_step HI3.out hb)
                    have HB34 := Lib.hid (Blk.below HB34.out hb HB34.out.lt)
                    have HP36 := Lib.hid (HP36.out.up hb)
                    have HB36 := Lib.hid (Blk.below HB36.out hb HB36.out.lt)
                    have HP39 := Lib.hid (HP39.out.up hb)
                    have HB39 := Lib.hid (Blk.below HB39.out hb HB39.out.lt)
                    have HP41 := Lib.hid (HP41.out.up hb)
                    have HB41 := Lib.hid (Blk.below HB41.out hb HB41.out.lt)
                    have HN43 := Lib.hid hn
                    have HP43 := Lib.hid hp
                    have HK43 := Lib.hid hc
                    clear hb hn hp hc y0 y1 y2 y3 y4 y5 y6 x0 x1 x2
                    go_upto_region 23 with (fail)
                    have hbx : Blk (v39.alloc (.cells #[.int .i64 d2.width, .int .i64 d2.room, .slice A43 n43 cap43, .int .i64 d2.hits, .int .i64 d2.misses, .int .i64 d2.clashes, .int .i64 d2.evicted] 28)) v39.heap.size 28 #[.int .i64 d2.width, .int .i64 d2.room, .slice A43 n43 cap43, .int .i64 d2.hits, .int .i64 d2.misses, .int .i64 d2.clashes, .int .i64 d2.evicted] := Blk.new v39 _ _
                    have hb : Below v39.heap.size v39 (v39.alloc (.cells #[.int .i64 d2.width, .int .i64 d2.room, .slice A43 n43 cap43, .int .i64 d2.hits, .int .i64 d2.misses, .int .i64 d2.clashes, .int .i64 d2.evicted] 28)) := (Below.refl _ _).alloc (Nat.le_refl _) _
                    obtain ⟨v40, hw⟩ : ∃ xw, xw = v39.alloc (.cells #[.int .i64 d2.width, .int .i64 d2.room, .slice A43 n43 cap43, .int .i64 d2.hits, .int .i64 d2.misses, .int .i64 d2.clashes, .int .i64 d2.evicted] 28) := ⟨_, rfl⟩
                    obtain ⟨g43, hg⟩ : ∃ g, g = v39.heap.size := ⟨_, rfl⟩
                    rw [← hw] at hbx hb ⊢
                    rw [← hg] at hbx ⊢
                    have HB43 := Lib.hid hbx
                    have HB21 := Lib.hid (Blk.below HB21.out hb HB21.out.lt)
                    have HW := Lib.hid (below_step HW.out hb)
                    have HI2 := Lib.hid (below_step HI2.out hb)
                    have HP32 := Lib.hid (HP32.out.up hb)
                    have HB32 := Lib.hid (Blk.below HB32.out hb HB32.out.lt)
                    have HI3 := Lib.hid (below_step HI3.out hb)
                    have HB34 := Lib.hid (Blk.below HB34.out hb HB34.out.lt)
                    have HP36 := Lib.hid (HP36.out.up hb)
                    have HB36 := Lib.hid (Blk.below HB36.out hb HB36.out.lt)
                    have HP39 := Lib.hid (HP39.out.up hb)
                    have HB39 := Lib.hid (Blk.below HB39.out hb HB39.out.lt)
                    have HP41 := Lib.hid (HP41.out.up hb)
                    have HB41 := Lib.hid (Blk.below HB41.out hb HB41.out.lt)
                    have HP43 := Lib.hid (HP43.out.up hb)
                    clear hbx hb hw hg
                    obtain ⟨y0, y1, y2, y3, y4, y5, y6⟩ := box7 HB36.out (Below.refl _ _)
                    obtain ⟨x0, x1, x2, x3, x4, x5, x6⟩ := box7 HB39.out (Below.refl _ _)
                    go_wp2_with fail
                    refine (sameC_true d1 A36 A39 n36 n39 cap36 cap39 _ HP36.out HP39.out HN36.out HN39.out HD1.out).mono ?_
                    rintro e v41 ⟨rfl, hb⟩
                    have HB21 := Lib.hid (Blk.below HB21.out hb HB21.out.lt)
                    have HW := Lib.hid (below_step HW.out hb)
                    have HI2 := Lib.hid (below_step HI2.out hb)
                    have HP32 := Lib.hid (HP32.out.up hb)
                    have HB32 := Lib.hid (Blk.below HB32.out hb HB32.out.lt)
                    have HI3 := Lib.hid (below_step HI3.out hb)
                    have HB34 := Lib.hid (Blk.below HB34.out hb HB34.out.lt)
                    have HP36 := Lib.hid (HP36.out.up hb)
                    have HB36 := Lib.hid (Blk.below HB36.out hb HB36.out.lt)
                    have HP39 := Lib.hid (HP39.out.up hb)
                    have HB39 := Lib.hid (Blk.below HB39.out hb HB39.out.lt)
                    have HP41 := Lib.hid (HP41.out.up hb)
                    have HB41 := Lib.hid (Blk.below HB41.out hb HB41.out.lt)
                    have HP43 := Lib.hid (HP43.out.up hb)
                    have HB43 := Lib.hid (Blk.below HB43.out hb HB43.out.lt)
                    clear hb
                    clear y0 y1 y2 y3 y4 y5 y6
                    clear x0 x1 x2 x3 x4 x5 x6
                    obtain ⟨y0, y1, y2, y3, y4, y5, y6⟩ := box7 HB41.out (Below.refl _ _)
                    obtain ⟨x0, x1, x2, x3, x4, x5, x6⟩ := box7 HB43.out (Below.refl _ _)
                    go_wp2_with fail
                    refine (sameC_true d2 A41 A43 n41 n43 cap41 cap43 _ HP41.out HP43.out HN41.out HN43.out HD2.out).mono ?_
                    rintro e v42 ⟨rfl, hb⟩
                    have HB21 := Lib.hid (Blk.below HB21.out hb HB21.out.lt)
                    have HW := Lib.hid (below_step HW.out hb)
                    have HI2 := Lib.hid (below_step HI2.out hb)
                    have HP32 := Lib.hid (HP32.out.up hb)
                    have HB32 := Lib.hid (Blk.below HB32.out hb HB32.out.lt)
                    have HI3 := Lib.hid (below_step HI3.out hb)
                    have HB34 := Lib.hid (Blk.below HB34.out hb HB34.out.lt)
                    have HP36 := Lib.hid (HP36.out.up hb)
                    have HB36 := Lib.hid (Blk.below HB36.out hb HB36.out.lt)
                    have HP39 := Lib.hid (HP39.out.up hb)
                    have HB39 := Lib.hid (Blk.below HB39.out hb HB39.out.lt)
                    have HP41 := Lib.hid (HP41.out.up hb)
                    have HB41 := Lib.hid (Blk.below HB41.out hb HB41.out.lt)
                    have HP43 := Lib.hid (HP43.out.up hb)
                    have HB43 := Lib.hid (Blk.below HB43.out hb HB43.out.lt)
                    clear hb
                    clear y0 y1 y2 y3 y4 y5 y6
                    clear x0 x1 x2 x3 x4 x5 x6
                    go_wp2_with fail
                    go_roundw
                    case rel => exact ⟨j + 1, by omega, by go_num, HI3⟩
                    case measure => simp [intOf]; omega

end Go.Proofs.Ytjifmfgfmciaeaa
