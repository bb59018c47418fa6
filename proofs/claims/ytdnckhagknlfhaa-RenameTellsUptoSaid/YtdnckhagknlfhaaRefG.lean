/-
  collatorref02.Check within Wide: where it tells nothing, there are at most 200 items, and no path is there twice. Nothing that was there is changed.
-/
import Derived.Test.YtdnckhagknlfhaaRefE
import Derived.Test.YtdnckhagknlfhaaRefF
namespace Go.Proofs.Ytdnckhagknlfhaa
open Go.RowKit

/-- a fault is told; where it is none, the items are few and their paths unlike -/
def CheckTold (its : List It) (w : World) (e : Ending) (w' : World) : Prop :=
  (∃ (q : ByteArray) (z : Int), -100 ≤ z ∧ z ≤ 100 ∧ e = .returned (.agg #[.string q, .int .i64 z]) ∧ (z = 0 → its.length ≤ 200 ∧ ∀ it ∈ its, cntP its it.path ≤ 1)) ∧ Below w.heap.size w w'
/-- what the loop has found -/
structure CkIn (its : List It) (w wr : World) (g0 g1 g2 : Nat) (k : Nat) (q : ByteArray) (z : Int) : Prop where
  b0 : Blk wr g0 67 #[.int .i64 16, .int .i64 1000, .int .i64 200]
  b1 : Blk wr g1 64 #[.string ⟨#[]⟩, .int .i64 0]
  b2 : Blk wr g2 64 #[.string q, .int .i64 z]
  below : Below w.heap.size w wr
  ge : w.heap.size ≤ g2
  r1 : -100 ≤ z
  r2 : z ≤ 100
  sz : q.size ≤ 200
  ok : z = 0 → ∀ j jt, j < k → its[j]? = some jt → cntP its jt.path ≤ 1
theorem CkIn.up {its : List It} {w wr w' : World} {g0 g1 g2 k : Nat} {q : ByteArray} {z : Int} (h : CkIn its w wr g0 g1 g2 k q z) (hb : Below wr.heap.size wr w') : CkIn its w w' g0 g1 g2 k q z :=
  ⟨h.b0.below hb h.b0.lt, h.b1.below hb h.b1.lt, h.b2.below hb h.b2.lt, h.below.trans (hb.mono h.below.size), h.ge, h.r1, h.r2, h.sz, h.ok⟩

theorem CkIn.skip {its : List It} {w wr : World} {g0 g1 g2 k : Nat} {q : ByteArray} {z : Int} {it : It} (h : CkIn its w wr g0 g1 g2 k q z) (hk : its[k]? = some it) (hc : cntP its it.path ≤ 1) : CkIn its w wr g0 g1 g2 (k + 1) q z :=
  ⟨h.b0, h.b1, h.b2, h.below, h.ge, h.r1, h.r2, h.sz, fun hz j jt hj hjt => by
    rcases Nat.lt_or_ge j k with g | g
    · exact h.ok hz j jt g hjt
    · have : j = k := by omega
      subst this
      rw [hk] at hjt; injection hjt with e; subst e; exact hc⟩
theorem CkIn.pass {its : List It} {w wr : World} {g0 g1 g2 k : Nat} {q : ByteArray} {z : Int} (h : CkIn its w wr g0 g1 g2 k q z) (hz : z ≠ 0) : CkIn its w wr g0 g1 g2 (k + 1) q z :=
  ⟨h.b0, h.b1, h.b2, h.below, h.ge, h.r1, h.r2, h.sz, fun e => absurd e hz⟩
theorem CkIn.put {its : List It} {w wr : World} {G k : Nat} {q : ByteArray} {z : Int} (h : CkIn its w wr G (G + 1) (G + 1 + 1) k q z) (p : ByteArray) (y : Int) (hp : p.size ≤ 200) (h1 : -100 ≤ y) (h2 : y ≤ 100) (h0 : y ≠ 0) (k' : Nat) :
    CkIn its w ((wr.setCell ⟨G + 1 + 1, 0, none⟩ (.string p)).setCell ⟨G + 1 + 1, 1, none⟩ (.int .i64 y)) G (G + 1) (G + 1 + 1) k' p y :=
  ⟨(h.b0.far (p := ⟨G + 1 + 1, 0, none⟩) (by simp; omega) _).far (p := ⟨G + 1 + 1, 1, none⟩) (by simp; omega) _, (h.b1.far (p := ⟨G + 1 + 1, 0, none⟩) (by simp) _).far (p := ⟨G + 1 + 1, 1, none⟩) (by simp) _,
    by simpa using (h.b2.set_ 0 (.string p)).set_ 1 (.int .i64 y), (h.below.setCell (p := ⟨G + 1 + 1, 0, none⟩) h.ge _).setCell (p := ⟨G + 1 + 1, 1, none⟩) h.ge _, h.ge, h1, h2, hp, fun e => absurd e h0⟩
theorem CkIn.told {its : List It} {w wr : World} {G k : Nat} {q : ByteArray} {z : Int} (h : CkIn its w wr G (G + 1) (G + 1 + 1) k q z) (hG : w.heap.size ≤ G) (hk : ¬ k < its.length) (h200 : its.length ≤ 200) :
    CheckTold its w (.returned (.agg #[.string q, .int .i64 z])) ((wr.setCell ⟨G + 1, 0, none⟩ (.string q)).setCell ⟨G + 1, 1, none⟩ (.int .i64 z)) :=
  ⟨⟨q, z, h.r1, h.r2, rfl, fun hz => ⟨h200, fun it hi => by
    obtain ⟨j, hj, rfl⟩ := List.mem_iff_getElem.1 hi
    exact h.ok hz j _ (by omega) (List.getElem?_eq_getElem hj)⟩⟩, (h.below.setCell (p := ⟨G + 1, 0, none⟩) (by simp; omega) _).setCell (p := ⟨G + 1, 1, none⟩) (by simp; omega) _⟩

set_option maxHeartbeats 2000000 in
set_option maxRecDepth 100000 in
theorem check2_any (A : Option Addr) (its : List It) (n c : Nat) (w : World) (ha : ItemsAt w A its) (hn : its.length = n) (h1 : n ≤ 65536) (hp : ∀ it ∈ its, it.path.size ≤ 200) :
    Calls Try.prog 33 #[.slice A n c, wideV] w (CheckTold its w) := by
  have HP := Lib.hid hp
  clear hp
  subst hn
  unfold wideV
  by_cases g0 : (200 : Int) < (its.length : Int)
  · go_enter Try.func33, Try.ntmps33
    go_wp2_with fail
    refine bodyPost_ret (v := .agg #[.string ⟨#[]⟩, .int .i64 8]) (by simp [results, Try.results33, go_sem]) rfl ⟨⟨⟨#[]⟩, 8, by omega, by omega, rfl, fun h => by omega⟩, ((Below.refl _ _).alloc (Nat.le_refl _) _).alloc (by simp) _⟩
  · go_enter Try.func33, Try.ntmps33
    go_wp2_with fail
    obtain ⟨G0, hG0⟩ : ∃ g, g = w.heap.size := ⟨_, rfl⟩
    have hstart : CkIn its w (((w.alloc (.cells #[.int .i64 16, .int .i64 1000, .int .i64 200] 67)).alloc (.cells #[.string ⟨#[]⟩, .int .i64 0] 64)).alloc (.cells #[.string ⟨#[]⟩, .int .i64 0] 64)) G0 (G0 + 1) (G0 + 1 + 1) 0 ⟨#[]⟩ 0 := by
      refine ⟨?_, ?_, ?_, (((Below.refl _ _).alloc (Nat.le_refl _) _).alloc (by simp) _).alloc (by simp; omega) _, by omega, by omega, by omega, by decide, fun _ j jt hj _ => by omega⟩
      · rw [hG0]; exact ((Blk.new _ _ _).alloc _).alloc _
      · have := (Blk.new (w.alloc (.cells #[.int .i64 16, .int .i64 1000, .int .i64 200] 67)) 64 #[.string ⟨#[]⟩, .int .i64 0]).alloc (.cells #[.string ⟨#[]⟩, .int .i64 0] 64)
        rw [hG0]; simpa using this
      · have := Blk.new ((w.alloc (.cells #[.int .i64 16, .int .i64 1000, .int .i64 200] 67)).alloc (.cells #[.string ⟨#[]⟩, .int .i64 0] 64)) 64 #[.string ⟨#[]⟩, .int .i64 0]
        rw [hG0]; simpa using this
    have HS := Lib.hid hstart
    have HGE : Hid (w.heap.size ≤ G0) := Lib.hid (by omega)
    rw [← hG0]
    clear hG0 hstart
    go_loopw [6] (fun i wr => ∃ (k : Nat) (q : ByteArray) (z : Int), k ≤ its.length ∧ i = .int .i64 k ∧ CkIn its w wr G0 (G0 + 1) (G0 + 1 + 1) k q z) (fun i _ => its.length - (intOf i).toNat)
    case atStart => exact ⟨0, _, _, Nat.zero_le _, rfl, HS.out⟩
    case round =>
      clear HS
      obtain ⟨k, q, z, hk, rfl, hT⟩ := hrel
      have r0 : wr.cell? ⟨G0, 0, none⟩ = some (.int .i64 16) := hT.b0.cell 0
      have r1 : wr.cell? ⟨G0, 1, none⟩ = some (.int .i64 1000) := hT.b0.cell 1
      have r2 : wr.cell? ⟨G0, 2, none⟩ = some (.int .i64 200) := hT.b0.cell 2
      have HT := Lib.hid hT
      by_cases g1 : k < its.length
      · obtain ⟨it, hit⟩ : ∃ it, its[k]? = some it := ⟨_, List.getElem?_eq_getElem g1⟩
        have ha' := ha.up hT.below
        obtain ⟨a, rfl, hal, c0, c1, c2, c3⟩ := ha'.at_ hit
        have HPS := Lib.hid (HP.out it (List.mem_of_getElem? hit))
        have HIT := Lib.hid hit
        have HA := Lib.hid ha'
        clear hT hit c1 c2 c3 ha'
        go_wp2_with fail
        go_region_law ((go_simp; refine (fault_any (some a) its its.length c it.path _ (HA.out.up ((Below.refl _ _).drew)) rfl h1 HPS.out).mono ?_; rintro e w3 ⟨⟨y, hy1, hy2, rfl, hy3⟩, hB3⟩; have HY := Lib.hid hy3; have HB3 : Hid (Below wr.heap.size wr w3) := Lib.hid (((Below.refl _ _).drew).trans hB3); clear hy3 hB3; dsimp only))
        all_goals
          go_simp
          have ht3 := HT.out.up HB3.out
          have p0 : w3.cell? ⟨G0 + 1 + 1, 0, none⟩ = some (.string q) := ht3.b2.cell 0
          have p1 : w3.cell? ⟨G0 + 1 + 1, 1, none⟩ = some (.int .i64 z) := ht3.b2.cell 1
          have f0 : w3.frozen? ⟨G0 + 1 + 1, 0, none⟩ = false := ht3.b2.frozen 0
          have f1 : w3.frozen? ⟨G0 + 1 + 1, 1, none⟩ = false := ht3.b2.frozen 1
          have d0 : w3.cell? (a.add (k * 4)) = some (.string it.path) := by
            obtain ⟨a', ea, _, hd, _⟩ := (HA.out.up HB3.out).at_ HIT.out
            injection ea with ea; subst ea; exact hd
          have HT3 := Lib.hid ht3
          clear ht3 c0 r0 r1 r2
          cases hy : ((y == 0) : Bool) with
          | true =>
            have hy' : ((y != 0) : Bool) = false := by rw [bne, hy]; rfl
            have HSK : Hid (CkIn its w w3 G0 (G0 + 1) (G0 + 1 + 1) (k + 1) q z) := Lib.hid (HT3.out.skip HIT.out (HY.out (by simpa using hy)))
            go_wp2_with fail
            go_quiet (fail)
            go_wp2_with fail
            go_roundw
            case rel => exact ⟨k + 1, q, z, by omega, by go_num, HSK.out.up (below_drewN (Below.refl _ _) _)⟩
            case measure => simp [intOf]; omega
          | false =>
            have hy' : ((y != 0) : Bool) = true := by rw [bne, hy]; rfl
            have HYN : Hid (y ≠ 0) := Lib.hid (by simpa using hy)
            cases hz : ((z == 0) : Bool) with
            | true =>
              go_wp2_with fail
              go_quiet (fail)
              go_wp2_with fail
              go_roundw
              case rel => exact ⟨k + 1, it.path, y, by omega, by go_num, (HT3.out.up (below_drewN (Below.refl _ _) nq)).put it.path y HPS.out hy1 hy2 HYN.out _⟩
              case measure => simp [intOf]; omega
            | false =>
              have HZN : Hid (z ≠ 0) := Lib.hid (by simpa using hz)
              have HQS := Lib.hid HT3.out.sz
              go_wp2_with fail
              go_region_law ((go_simp; refine (refCompare_any it.path q _ (by have := HPS.out; omega) (by have := HQS.out; omega)).mono ?_; rintro e w4 ⟨⟨b, hb1, hb2, rfl⟩, hB4⟩; have HB4 : Hid (Below w3.heap.size w3 w4) := Lib.hid (((Below.refl _ _).drew).trans hB4); clear hB4; dsimp only))
              all_goals
                go_simp
                have ht4 := HT3.out.up HB4.out
                have e0 : w4.cell? ⟨G0 + 1 + 1, 0, none⟩ = some (.string q) := ht4.b2.cell 0
                have e1 : w4.cell? ⟨G0 + 1 + 1, 1, none⟩ = some (.int .i64 z) := ht4.b2.cell 1
                have k0 : w4.frozen? ⟨G0 + 1 + 1, 0, none⟩ = false := ht4.b2.frozen 0
                have k1 : w4.frozen? ⟨G0 + 1 + 1, 1, none⟩ = false := ht4.b2.frozen 1
                have d4 : w4.cell? (a.add (k * 4)) = some (.string it.path) := by
                  obtain ⟨a', ea, _, hd, _⟩ := ((HA.out.up HB3.out).up HB4.out).at_ HIT.out
                  injection ea with ea; subst ea; exact hd
                have HT4 := Lib.hid ht4
                clear ht4 p0 p1 f0 f1 d0
                by_cases hb : b < 0
                · go_wp2_with fail
                  go_roundw
                  case rel => exact ⟨k + 1, it.path, y, by omega, by go_num, HT4.out.put it.path y HPS.out hy1 hy2 HYN.out _⟩
                  case measure => simp [intOf]; omega
                · go_wp2_with fail
                  go_roundw
                  case rel => exact ⟨k + 1, q, z, by omega, by go_num, HT4.out.pass HZN.out⟩
                  case measure => simp [intOf]; omega
      · have p0 : wr.cell? ⟨G0 + 1 + 1, 0, none⟩ = some (.string q) := hT.b2.cell 0
        have p1 : wr.cell? ⟨G0 + 1 + 1, 1, none⟩ = some (.int .i64 z) := hT.b2.cell 1
        have f0 : wr.frozen? ⟨G0 + 1, 0, none⟩ = false := hT.b1.frozen 0
        have f1 : wr.frozen? ⟨G0 + 1, 1, none⟩ = false := hT.b1.frozen 1
        have o0 : wr.cell? ⟨G0 + 1, 0, none⟩ = some (.string ⟨#[]⟩) := hT.b1.cell 0
        have o1 : wr.cell? ⟨G0 + 1, 1, none⟩ = some (.int .i64 0) := hT.b1.cell 1
        have hb := (hT.b1.set_ 0 (.string q)).set_ 1 (.int .i64 z)
        have q0 : ((wr.setCell ⟨G0 + 1, 0, none⟩ (.string q)).setCell ⟨G0 + 1, 1, none⟩ (.int .i64 z)).cell? ⟨G0 + 1, 0, none⟩ = some (.string q) := by simpa using hb.cell 0
        have q1 : ((wr.setCell ⟨G0 + 1, 0, none⟩ (.string q)).setCell ⟨G0 + 1, 1, none⟩ (.int .i64 z)).cell? ⟨G0 + 1, 1, none⟩ = some (.int .i64 z) := by simpa using hb.cell 1
        have HQ0 := Lib.hid q0
        have HQ1 := Lib.hid q1
        clear hT q0 q1 hb
        go_wp2_with fail
        have q0 := HQ0.out
        have q1 := HQ1.out
        refine bodyPost_ret (v := .agg #[.string q, .int .i64 z]) (by simp [results, Try.results33, go_sem, q0, q1]) rfl (HT.out.told HGE.out g1 (by omega))

end Go.Proofs.Ytdnckhagknlfhaa
