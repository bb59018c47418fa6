/-
  Chapter 13's own answers: collatorref13.without, Get, Put, Keys, and that Same tells of two lists that are the same that they are. What they make is new memory; nothing that was there is changed.
-/
import Derived.Test.YtjifmfgfmciaeaaSlots
import Derived.Deep.RegionHeld3
import Derived.Deep.DeepCutAuto
import Derived.Lib.MinMax
namespace Go.Proofs.Ytjifmfgfmciaeaa
open Go.RowKit

abbrev OwnS (w0 w : World) (v : Value) (L : List Sl) : Prop := OwnR Sl.cells 5 63 w0 w v L
abbrev withoutS (L : List Sl) (k : Int × Int) : List Sl := P13.without Sl.key L k
theorem push_slot {w0 W : World} {v : Value} {L : List Sl} (h : OwnS w0 W v L) (x : Sl) (m : Nat) (hm : L.length + 1 = m) (hL : m ≤ 1048576) :
    ∃ A' c' W', (Builtin.append_ #[58, 58] 58 #[v, .slice (some ⟨W.heap.size, 0, none⟩) 1 1]).run Try.prog (W.alloc (.cells #[.int .u64 x.sum, .int .i64 x.len, .string x.left, .string x.right, .string x.val] 63)) = .ok (.slice A' m c') W' ∧ OwnS w0 W' (.slice A' m c') (L ++ [x]) ∧ W.grownBy W' v.ownBlock :=
  OwnR.push sl_len sl_one (by decide) infoS rfl Try.underlying58 (by decide) h x m hm hL
theorem append_slots {w0 w : World} {v : Value} {L M : List Sl} (h : OwnS w0 w v L) {A : Option Addr} (m c : Nat) (hA : SlotsAt w A M) (hm : M.length = m) (Y : List Sl) (hY : Y = L ++ M) (hb : Y.length ≤ 1048576) :
    ∃ A' c' w', (Builtin.append_ #[58, 58] 58 #[v, .slice A m c]).run Try.prog w = .ok (.slice A' Y.length c') w' ∧ OwnS w0 w' (.slice A' Y.length c') Y ∧ w.grownBy w' v.ownBlock :=
  OwnR.append sl_len sl_one (by decide) infoS rfl Try.underlying58 (by decide) h m c hA hm Y hY hb
theorem without_take {L : List Sl} {i : Nat} {x : Sl} (h : L[i]? = some x) (k : Int × Int) : withoutS (L.take (i + 1)) k = if x.key = k then withoutS (L.take i) k else withoutS (L.take i) k ++ [x] := by
  obtain ⟨hk, rfl⟩ := List.getElem?_eq_some_iff.1 h
  unfold withoutS
  rw [List.take_succ_eq_append_getElem hk, P13.without_append]
  by_cases e : (L[i]).key = k
  · rw [if_pos e]; simp [P13.without, e]
  · rw [if_neg e]; simp [P13.without, e]
theorem without_le (L : List Sl) (k : Int × Int) : (withoutS L k).length ≤ L.length := (P13.without_sub L k).length_le

def WithoutTold (L : List Sl) (k : Int × Int) (w : World) (e : Ending) (w' : World) : Prop := ∃ v, e = .returned v ∧ OwnS w w' v (withoutS L k)

set_option maxHeartbeats 2000000 in
set_option maxRecDepth 100000 in
theorem rwithout_any (A : Option Addr) (L : List Sl) (n c : Nat) (ks kl : Int) (w : World) (ha : SlotsAt w A L) (hn : L.length = n) (h1 : L.length ≤ 1000000) :
    Calls Try.prog 50 #[.slice A n c, .agg #[.int .u64 ks, .int .i64 kl]] w (WithoutTold L (ks, kl) w) := by
  subst hn
  have HA := Lib.hid ha
  clear ha
  go_enter Try.func50, Try.ntmps50
  go_wp2_with fail
  have hbx := Blk.new w 61 #[.int .u64 ks, .int .i64 kl]
  have hal : Below w.heap.size w (w.alloc (.cells #[.int .u64 ks, .int .i64 kl] 61)) := (Below.refl _ _).alloc (Nat.le_refl _) _
  obtain ⟨w1, hw1⟩ : ∃ w1, w1 = w.alloc (.cells #[.int .u64 ks, .int .i64 kl] 61) := ⟨_, rfl⟩
  obtain ⟨g, hg⟩ : ∃ g, g = w.heap.size := ⟨_, rfl⟩
  rw [← hw1] at hbx hal ⊢
  rw [← hg] at hbx ⊢
  have HB := Lib.hid hbx
  have HW := Lib.hid hal
  clear hw1 hg hbx hal
  go_loopw [5, 6] (fun v i wr => ∃ k : Nat, k ≤ L.length ∧ i = .int .i64 k ∧ OwnS w1 wr v (withoutS (L.take k) (ks, kl))) (fun _ i _ => L.length - (intOf i).toNat)
  case atStart => exact ⟨0, Nat.zero_le _, rfl, OwnR.nil w1⟩
  case round =>
    obtain ⟨k, hk, rfl, hO⟩ := hrel
    have HO := Lib.hid hO
    clear hO
    by_cases g1 : k < L.length
    · obtain ⟨x, hx⟩ : ∃ x, L[k]? = some x := ⟨_, List.getElem?_eq_getElem g1⟩
      obtain ⟨a, rfl, hal, c0, c1, c2, c3, c4⟩ := slots_fields ((HA.out.up HW.out).up HO.out.2) hx
      have b0 := (Blk.below HB.out HO.out.2 HB.out.lt).cell 0
      have b1 := (Blk.below HB.out HO.out.2 HB.out.lt).cell 1
      simp only [List.getElem?_toArray, List.getElem?_cons_zero, List.getElem?_cons_succ] at b0 b1
      have HX := Lib.hid hx
      have hle := without_le (L.take k) (ks, kl)
      have hlt : (L.take k).length ≤ k := List.length_take_le _ _
      clear hx
      cases t1 : (x.sum == ks) with
      | false =>
        have HT := Lib.hid (without_take HX.out (ks, kl))
        have HE : Hid (x.key ≠ (ks, kl)) := Lib.hid (by intro e; have := congrArg Prod.fst e; simp [Sl.key] at this; simp [this] at t1)
        go_wp2_with fail
        go_quiet (fail)
        obtain ⟨wd, hwd⟩ : ∃ wd, wd = wr.drewN nq := ⟨_, rfl⟩
        obtain ⟨N, hN⟩ : ∃ N, (withoutS (L.take k) (ks, kl)).length + 1 = N := ⟨_, rfl⟩
        have hd : Below wr.heap.size wr wd := by rw [hwd]; exact below_drewN (Below.refl _ _) _
        obtain ⟨A7, c7, W7, hrun7, hO7, _⟩ := push_slot (HO.out.up hd) x N hN (by omega)
        have HR7 := Lib.hid hrun7
        have HO7 := Lib.hid hO7
        rw [← hwd]
        clear c0 c1 c2 c3 c4 b0 b1
        obtain ⟨a', ea, _, c0, c1, c2, c3, c4⟩ := slots_fields (((HA.out.up HW.out).up HO.out.2).up hd) HX.out
        injection ea with ea
        subst ea
        clear hwd hrun7 hO7 hN hd
        go_wp2_with (at_builtin; refine wpList_append_run rfl rfl (by simp [Region.wanted]) rfl rfl HR7.out ?_)
        go_roundw
        case rel => exact ⟨k + 1, by omega, by go_num, by rw [HT.out, if_neg HE.out]; exact HO7.out⟩
        case measure => simp [intOf]; omega
      | true =>
        cases t2 : (x.len == kl) with
        | false =>
          have HT := Lib.hid (without_take HX.out (ks, kl))
          have HE : Hid (x.key ≠ (ks, kl)) := Lib.hid (by intro e; have := congrArg Prod.snd e; simp [Sl.key] at this; simp [this] at t2)
          go_wp2_with fail
          go_quiet (fail)
          obtain ⟨wd, hwd⟩ : ∃ wd, wd = wr.drewN nq := ⟨_, rfl⟩
          obtain ⟨N, hN⟩ : ∃ N, (withoutS (L.take k) (ks, kl)).length + 1 = N := ⟨_, rfl⟩
          have hd : Below wr.heap.size wr wd := by rw [hwd]; exact below_drewN (Below.refl _ _) _
          obtain ⟨A7, c7, W7, hrun7, hO7, _⟩ := push_slot (HO.out.up hd) x N hN (by omega)
          have HR7 := Lib.hid hrun7
          have HO7 := Lib.hid hO7
          rw [← hwd]
          clear c0 c1 c2 c3 c4 b0 b1
          obtain ⟨a', ea, _, c0, c1, c2, c3, c4⟩ := slots_fields (((HA.out.up HW.out).up HO.out.2).up hd) HX.out
          injection ea with ea
          subst ea
          clear hwd hrun7 hO7 hN hd
          go_wp2_with (at_builtin; refine wpList_append_run rfl rfl (by simp [Region.wanted]) rfl rfl HR7.out ?_)
          go_roundw
          case rel => exact ⟨k + 1, by omega, by go_num, by rw [HT.out, if_neg HE.out]; exact HO7.out⟩
          case measure => simp [intOf]; omega
        | true =>
          have HT := Lib.hid (without_take HX.out (ks, kl))
          have HE : Hid (x.key = (ks, kl)) := Lib.hid (Prod.ext (by show x.sum = ks; simpa using t1) (by show x.len = kl; simpa using t2))
          go_wp2_with fail
          go_quiet (fail)
          go_wp2_with fail
          go_roundw
          case rel => exact ⟨k + 1, by omega, by go_num, by rw [HT.out, if_pos HE.out]; exact HO.out.up (below_drewN (Below.refl _ _) _)⟩
          case measure => simp [intOf]; omega
    · go_wp2_with fail
      go_ret
      exact ⟨_, rfl, by have := HO.out; rw [List.take_of_length_le (by omega)] at this; exact this.base HW.out⟩

end Go.Proofs.Ytjifmfgfmciaeaa
