/-
  Package flight: what Done and Leave do to a fill, as closures: each by a contract of its own.
-/
import Derived.Test.YtllkegonhghkcaaClo
namespace Go.Proofs.Ytllkegonhghkcaa
open Go.RowKit P15

/-- what the closure of Done has caught -/
structure CapD (W : World) (gw gt : Nat) (who : Int) (v : Value) : Prop where
  who : Blk W gw 3 #[.int .i64 who]
  told : Blk W gt 26 #[v]
theorem CapD.up {W W' : World} {gw gt : Nat} {who : Int} {v : Value} (h : CapD W gw gt who v) (hb : Below W.heap.size W W') : CapD W' gw gt who v :=
  ⟨Blk.below h.who hb h.who.lt, Blk.below h.told hb h.told.lt⟩
def CloD (w0 : World) (m gw gt : Nat) (xl xr : ByteArray) (xb : Int) (A : Option Addr) (k c : Nat) (ws : List Int) (who : Int) (v : Value) (e : Ending) (W' : World) : Prop :=
  e = .returned (.bool (decide (xb ≠ who))) ∧ w0.grownBy W' (some gt) ∧ Mine w0.heap.size W' m xl xr xb A k c ws ∧ CapD W' gw gt who (if xb = who then .slice A k c else v)

set_option maxHeartbeats 4000000 in
theorem clod_any (w0 W : World) (m gw gt : Nat) (xl xr : ByteArray) (xb : Int) (A : Option Addr) (k c : Nat) (ws : List Int) (who : Int) (T0 : Option Addr) (tn tc : Nat) (hbox : Blk W m 28 #[.string xl, .string xr, .int .i64 xb, .slice A k c]) (ho : OwnI w0 W (.slice A k c) ws) (hk : ws.length = k)
    (hc : CapD W gw gt who (.slice T0 tn tc)) :
    Calls Try.prog 30 #[.pointer (some ⟨m, 0, none⟩), .pointer (some ⟨gw, 0, none⟩), .pointer (some ⟨gt, 0, none⟩)] W (CloD w0 m gw gt xl xr xb A k c ws who (.slice T0 tn tc)) := by
  have HBOX := Lib.hid hbox
  have HO := Lib.hid ho
  have HK := Lib.hid hk
  have HC := Lib.hid hc
  obtain ⟨y0, y1, y2, y3⟩ := blk4 hbox
  have u0 := Blk.cell hc.who 0
  have u1 := Blk.cell hc.told 0
  have u2 := Blk.frozen hc.told 0
  simp only [List.getElem?_toArray, List.getElem?_cons_zero] at u0 u1
  clear hbox ho hk hc
  cases t1 : (xb == who) with
  | false =>
    have HN : Hid (¬ xb = who) := Lib.hid fun e => by rw [e] at t1; simp at t1
    have t2 : (xb != who) = true := by simp [bne, t1]
    go_enter Try.func30, Try.ntmps30
    go_wp2_with fail
    go_quiet (fail)
    go_wp2_with fail
    go_ret
    have hd : Below W.heap.size W (W.drewN nq) := below_drewN (Below.refl _ _) _
    refine ⟨ret_bool (decide_eq_true HN.out).symm, grown_of_below (below_drewN HO.out.2 _) _, ⟨Blk.below HBOX.out hd HBOX.out.lt, IntsT.of_own (HO.out.up hd) rfl rfl, HK.out, own_new HO.out⟩, ?_⟩
    rw [if_neg HN.out]
    exact HC.out.up hd
  | true =>
    have HY : Hid (xb = who) := Lib.hid (by simpa using t1)
    have t2 : (xb != who) = false := by simp [bne, t1]
    go_enter Try.func30, Try.ntmps30
    go_wp2_with fail
    go_quiet (fail)
    go_wp2_with fail
    go_ret
    have hd : Below W.heap.size W (W.drewN nq) := below_drewN (Below.refl _ _) _
    have hb1 := Blk.below HBOX.out hd HBOX.out.lt
    have hc1 := HC.out.up hd
    have hn1 : ∀ {g : Nat} {cs : Array Value}, Blk (W.drewN nq) g 3 cs → Blk ((W.drewN nq).setCell ⟨gt, 0, none⟩ (.slice A k c)) g 3 cs := fun hg => Blk.far hg (blk_ne hg hc1.told (by decide)) _
    refine ⟨ret_bool (decide_eq_false (fun h => h HY.out)).symm, grown_set' (grown_of_below (below_drewN HO.out.2 _) _) _ _ (.inl rfl), ⟨Blk.far hb1 (blk_ne hb1 hc1.told (by decide)) _, (IntsT.of_own (x := ⟨xl, xr, xb, ws, A, c⟩) (HO.out.up hd) rfl rfl).kept (fun _ _ hg => hn1 hg), HK.out, own_new HO.out⟩, ?_⟩
    rw [if_pos HY.out]
    exact ⟨hn1 hc1.who, Blk.set_ hc1.told 0 _⟩
/-- what the closure of Leave has caught -/
def CapL (W : World) (gw : Nat) (who : Int) : Prop := Blk W gw 3 #[.int .i64 who]
theorem CapL.up {W W' : World} {gw : Nat} {who : Int} (h : CapL W gw who) (hb : Below W.heap.size W W') : CapL W' gw who := Blk.below h hb h.lt
def CloL (w0 : World) (m gw : Nat) (xl xr : ByteArray) (xb : Int) (ws : List Int) (who : Int) (e : Ending) (W' : World) : Prop :=
  e = .returned (.bool true) ∧ Below w0.heap.size w0 W' ∧ ∃ (A : Option Addr) (k c : Nat), Mine w0.heap.size W' m xl xr xb A k c (without ws who) ∧ CapL W' gw who

set_option maxHeartbeats 4000000 in
theorem clol_any (w0 W : World) (m gw : Nat) (xl xr : ByteArray) (xb : Int) (A : Option Addr) (k c : Nat) (ws : List Int) (who : Int) (hbox : Blk W m 28 #[.string xl, .string xr, .int .i64 xb, .slice A k c]) (ho : OwnI w0 W (.slice A k c) ws) (hk : ws.length = k) (hk2 : k ≤ 2000)
    (hm : w0.heap.size ≤ m) (hc : CapL W gw who) :
    Calls Try.prog 31 #[.pointer (some ⟨m, 0, none⟩), .pointer (some ⟨gw, 0, none⟩)] W (CloL w0 m gw xl xr xb ws who) := by
  have HBOX := Lib.hid hbox
  have HO := Lib.hid ho
  have HK := Lib.hid hk
  have HC := Lib.hid hc
  obtain ⟨y0, y1, y2, y3⟩ := blk4 hbox
  have u0 := Blk.cell hc 0
  simp only [List.getElem?_toArray, List.getElem?_cons_zero] at u0
  have HI : Hid (IntsAt W A ws) := Lib.hid (OwnR.at_ i_len ho hk)
  clear hbox ho hk hc
  go_enter Try.func31, Try.ntmps31
  go_wp2_with fail
  go_region_law ((go_simp; refine (without_any A ws k c who _ (HI.out.up ((Below.refl _ _).drew)) HK.out hk2).mono ?_; rintro e w3 ⟨A3, k3, c3, rfl, hn3, ho3⟩; have hb3 : Below W.heap.size W w3 := ((Below.refl _ _).drew).trans ho3.2; have hx3 := Blk.below HBOX.out hb3 HBOX.out.lt; have z3 := Blk.cell hx3 3; have z4 := Blk.frozen hx3 3; simp only [List.getElem?_toArray, List.getElem?_cons_zero, List.getElem?_cons_succ] at z3; have HO3 : Hid (OwnI W w3 (.slice A3 k3 c3) (without ws who)) := Lib.hid (OwnR.base ho3 ((Below.refl _ _).drew)); have HX3 := Lib.hid hx3; have HN3 := Lib.hid hn3; clear hb3 hx3 ho3 hn3; dsimp only))
  all_goals
    go_simp
    go_wp2_with fail
    go_ret
    refine ⟨rfl, ((HO.out.2.trans (HO3.out.2.mono HO.out.2.size))).setCell hm _, A3, k3, c3, ⟨Blk.set_ HX3.out 3 _, (IntsT.of_own (x := ⟨xl, xr, xb, without ws who, A3, c3⟩) HO3.out rfl rfl).kept (fun _ _ hg => Blk.far hg (blk_ne hg HX3.out (by decide)) _), HN3.out, fun h b e => Nat.le_trans HO.out.2.size (own_new HO3.out h b e)⟩, ?_⟩
    have hc3 := HC.out.up HO3.out.2
    exact Blk.far hc3 (blk_ne hc3 HX3.out (by decide)) _

end Go.Proofs.Ytllkegonhghkcaa
