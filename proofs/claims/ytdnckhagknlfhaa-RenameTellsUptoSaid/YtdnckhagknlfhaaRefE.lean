/-
  collatorref02.fault: what it tells, as far as the laws need it: where it tells nothing, no other item has that path. Nothing that was there is changed.
-/
import Derived.Test.YtdnckhagknlfhaaRefD
namespace Go.Proofs.Ytdnckhagknlfhaa
open Go.RowKit

/-- the limits beyond which nothing is -/
def wideV : Value := .agg #[.int .i64 16, .int .i64 1000, .int .i64 200]
def FaultTold (its : List It) (p : ByteArray) (w : World) (e : Ending) (w' : World) : Prop :=
  (∃ z : Int, -100 ≤ z ∧ z ≤ 100 ∧ e = .returned (.int .i64 z) ∧ (z = 0 → cntP its p ≤ 1)) ∧ Below w.heap.size w w'
theorem FaultTold.some {its : List It} {p : ByteArray} {w w' : World} (z : Int) (h : -100 ≤ z ∧ z ≤ 100) (h0 : z ≠ 0) (hb : Below w.heap.size w w') : FaultTold its p w (.returned (.int .i64 z)) w' :=
  ⟨⟨z, h.1, h.2, rfl, fun e => absurd e h0⟩, hb⟩

set_option maxHeartbeats 4000000 in
set_option maxRecDepth 100000 in
theorem fault_any (A : Option Addr) (its : List It) (n c : Nat) (p : ByteArray) (w : World) (ha : ItemsAt w A its) (hn : its.length = n) (h1 : n ≤ 65536) (hp : p.size ≤ 200) :
    Calls Try.prog 51 #[.slice A n c, wideV, .string p] w (FaultTold its p w) := by
  unfold wideV
  go_enter Try.func51, Try.ntmps51
  go_wp2_with fail
  have hbx := Blk.new w 67 #[.int .i64 16, .int .i64 1000, .int .i64 200]
  have hal : Below w.heap.size w (w.alloc (.cells #[.int .i64 16, .int .i64 1000, .int .i64 200] 67)) := (Below.refl _ _).alloc (Nat.le_refl _) _
  obtain ⟨g, hg⟩ : ∃ g, g = w.heap.size := ⟨_, rfl⟩
  rw [← hg] at hbx
  have HBX := Lib.hid hbx
  have HB := Lib.hid hal
  have HG := Lib.hid hg
  clear hbx hal hg
  refine (check_any p _ (by omega)).mono ?_
  rintro e w1 ⟨⟨z, hz1, hz2, rfl⟩, hB⟩
  rw [← HG.out]
  have hbx1 := HBX.out.below hB HBX.out.lt
  have HBX1 := Lib.hid hbx1
  have HB1 := Lib.hid (HB.out.trans (hB.mono HB.out.size))
  clear hB hbx1
  cases hz : ((z == 0) : Bool) with
  | false =>
    have hz' : ((z != 0) : Bool) = true := by rw [bne, hz]; rfl
    have hzn : z ≠ 0 := by simpa using hz
    have HZ := Lib.hid hzn
    clear hzn
    go_wp2_with fail
    go_ret
    exact FaultTold.some z ⟨hz1, hz2⟩ HZ.out HB1.out
  | true =>
    have hz' : ((z != 0) : Bool) = false := by rw [bne, hz]; rfl
    go_wp2_with fail
    refine (parts_any p _ (by omega)).mono ?_
    rintro e w2 ⟨A2, c2, X, rfl, hX, hl, hm, hB⟩
    have hbx2 := HBX1.out.below hB HBX1.out.lt
    have q0 : w2.cell? ⟨g, 0, none⟩ = some (.int .i64 16) := hbx2.cell 0
    have q1 : w2.cell? ⟨g, 1, none⟩ = some (.int .i64 1000) := hbx2.cell 1
    have HBX2 := Lib.hid hbx2
    have HB2 := Lib.hid (HB1.out.trans (hB.mono HB1.out.size))
    clear hB hbx2 hm hX
    by_cases g2 : (16 : Int) < (X.length : Int)
    · go_wp2_with fail
      go_ret
      exact FaultTold.some 3 ⟨by omega, by omega⟩ (by omega) HB2.out
    · go_wp2_with fail
      have ha2 := ha.up HB2.out
      refine (count_any A its n c p _ ha2 hn h1).mono ?_
      rintro e w3 ⟨rfl, rfl⟩
      have hcl := cntP_le its p
      by_cases g3 : (1 : Int) < (cntP its p : Int)
      · go_wp2_with fail
        go_ret
        exact FaultTold.some 4 ⟨by omega, by omega⟩ (by omega) HB2.out
      · have HC : Hid (cntP its p ≤ 1) := Lib.hid (by omega)
        go_wp2_with fail
        refine (some5_any A its n c p 1000 _ ha2 hn h1).mono ?_
        rintro e w4 ⟨⟨b, rfl⟩, hB⟩
        have hbx4 := HBX2.out.below hB HBX2.out.lt
        have q4 : w4.cell? ⟨g, 1, none⟩ = some (.int .i64 1000) := hbx4.cell 1
        have HBX4 := Lib.hid hbx4
        have HB4 := Lib.hid (HB2.out.trans (hB.mono HB2.out.size))
        clear hB hbx4 q0 q1 ha2
        cases b with
        | true =>
          go_wp2_with fail
          go_ret
          exact FaultTold.some 5 ⟨by omega, by omega⟩ (by omega) HB4.out
        | false =>
          go_wp2_with fail
          refine (dirOf_any p _ hp).mono ?_
          rintro e w5 ⟨⟨r, rfl, hr⟩, hB⟩
          have hbx5 := HBX4.out.below hB HBX4.out.lt
          have q5 : w5.cell? ⟨g, 1, none⟩ = some (.int .i64 1000) := hbx5.cell 1
          have HBX5 := Lib.hid hbx5
          have HB5 := Lib.hid (HB4.out.trans (hB.mono HB4.out.size))
          have ha5 := ha.up HB5.out
          clear hB hbx5 q4
          cases gd : r.toList.isEmpty with
          | true =>
            go_wp2_with fail
            refine (some7_any A its n c p 1000 _ ha5 hn h1).mono ?_
            rintro e w6 ⟨⟨b, rfl⟩, hB⟩
            have hbx6 := HBX5.out.below hB HBX5.out.lt
            have q6 : w6.cell? ⟨g, 1, none⟩ = some (.int .i64 1000) := hbx6.cell 1
            have HB6 := Lib.hid (HB5.out.trans (hB.mono HB5.out.size))
            clear hB hbx6 q5 ha5
            cases b with
            | true =>
              go_wp2_with fail
              go_ret
              exact FaultTold.some 7 ⟨by omega, by omega⟩ (by omega) HB6.out
            | false =>
              go_wp2_with fail
              refine (some9_any A its n c p 1000 _ (ha.up HB6.out) hn h1).mono ?_
              rintro e w7 ⟨⟨b, rfl⟩, hB⟩
              have HB7 := Lib.hid (HB6.out.trans (hB.mono HB6.out.size))
              clear hB q6
              cases b with
              | true =>
                go_wp2_with fail
                go_ret
                exact FaultTold.some 9 ⟨by omega, by omega⟩ (by omega) HB7.out
              | false =>
                go_wp2_with fail
                go_ret
                exact ⟨⟨0, by omega, by omega, rfl, fun _ => HC.out⟩, HB7.out⟩
          | false =>
            go_wp2_with (go_at_call 68; refine (dir_any A its n c r _ ha5 hn h1).mono ?_; rintro e w6 ⟨⟨b, rfl⟩, rfl⟩; cases b)
            · go_ret
              exact FaultTold.some 6 ⟨by omega, by omega⟩ (by omega) HB5.out
            · go_wp2_with fail
              refine (some7_any A its n c p 1000 _ ha5 hn h1).mono ?_
              rintro e w6 ⟨⟨b, rfl⟩, hB⟩
              have hbx6 := HBX5.out.below hB HBX5.out.lt
              have q6 : w6.cell? ⟨g, 1, none⟩ = some (.int .i64 1000) := hbx6.cell 1
              have HB6 := Lib.hid (HB5.out.trans (hB.mono HB5.out.size))
              clear hB hbx6 q5 ha5
              cases b with
              | true =>
                go_wp2_with fail
                go_ret
                exact FaultTold.some 7 ⟨by omega, by omega⟩ (by omega) HB6.out
              | false =>
                go_wp2_with fail
                refine (some9_any A its n c p 1000 _ (ha.up HB6.out) hn h1).mono ?_
                rintro e w7 ⟨⟨b, rfl⟩, hB⟩
                have HB7 := Lib.hid (HB6.out.trans (hB.mono HB6.out.size))
                clear hB q6
                cases b with
                | true =>
                  go_wp2_with fail
                  go_ret
                  exact FaultTold.some 9 ⟨by omega, by omega⟩ (by omega) HB7.out
                | false =>
                  go_wp2_with fail
                  go_ret
                  exact ⟨⟨0, by omega, by omega, rfl, fun _ => HC.out⟩, HB7.out⟩

end Go.Proofs.Ytdnckhagknlfhaa
