/-
  collatorref16.Tasks and Same: are two lists of tasks, and two queues, the same. Nothing that was there is changed.
-/
import Derived.Test.YtaelenjnjoeheaaRdr
namespace Go.Proofs.Ytaelenjnjoeheaa
open Go.RowKit P16

theorem text_eq {a b : ByteArray} (h : (a.toList == b.toList) = true) : a = b := by
  have e := eq_of_beq h
  rw [Lib.toList_data, Lib.toList_data] at e
  exact ByteArray.ext (Array.toList_inj.1 e)
theorem tk_eq {x y : Tk} (h0 : (x.req == y.req) = true) (h1 : (x.slot == y.slot) = true) (h2 : (x.left.toList == y.left.toList) = true) (h3 : (x.right.toList == y.right.toList) = true) : x = y := by
  obtain ⟨a, b, c, d⟩ := x
  obtain ⟨a', b', c', d'⟩ := y
  have e0 : a = a' := by simpa using h0
  have e1 : b = b' := by simpa using h1
  have e2 : c = c' := text_eq h2
  have e3 : d = d' := text_eq h3
  rw [e0, e1, e2, e3]
theorem list_ne {L M : List Tk} {k : Nat} {x y : Tk} (hx : L[k]? = some x) (hy : M[k]? = some y) (h : x ≠ y) : ¬ L = M := by
  rintro rfl
  rw [hx] at hy
  injection hy with hy
  exact h hy

set_option maxHeartbeats 4000000 in
theorem rtasks_any (A B : Option Addr) (L M : List Tk) (n m c d : Nat) (b : Bool) (hb : decide (L = M) = b) (w : World) (ha : TasksAt w A L) (ha' : TasksAt w B M) (hn : L.length = n) (hm : M.length = m) (h1 : n ≤ 140737488355328) (h2 : m ≤ 140737488355328) :
    Calls Try.prog 24 #[.slice A n c, .slice B m d] w fun e w' => e = .returned (.bool b) ∧ Drew w w' := by
  have HA := Lib.hid ha
  have HA' := Lib.hid ha'
  have HB := Lib.hid hb
  have HL := Lib.hid hn
  have HM := Lib.hid hm
  clear ha ha' hb hn hm
  by_cases hl : n = m
  · subst hl
    go_enter Try.func24, Try.ntmps24
    go_wp2_with fail
    go_loopw [5] (fun i wr => ∃ k : Nat, k ≤ n ∧ i = .int .i64 k ∧ Hid (L.take k = M.take k) ∧ Hid (Drew w wr)) (fun i _ => n - (intOf i).toNat)
    case atStart => exact ⟨0, Nat.zero_le _, rfl, Lib.hid (by simp), Lib.hid (Drew.refl _)⟩
    case round =>
      obtain ⟨k, hk, rfl, HN, HD⟩ := hrel
      by_cases g1 : k < n
      · obtain ⟨x, hx⟩ : ∃ x, L[k]? = some x := ⟨_, List.getElem?_eq_getElem (by rw [HL.out]; exact g1)⟩
        obtain ⟨y, hy⟩ : ∃ y, M[k]? = some y := ⟨_, List.getElem?_eq_getElem (by rw [HM.out]; exact g1)⟩
        obtain ⟨a, rfl, hal, c0, c1, c2, c3⟩ := tasks_fields (HA.out.up HD.out.below) hx
        obtain ⟨a', rfl, hal', d0, d1, d2, d3⟩ := tasks_fields (HA'.out.up HD.out.below) hy
        have HX := Lib.hid hx
        have HY := Lib.hid hy
        clear hx hy hal hal'
        cases t0 : (x.req == y.req) with
        | false =>
          have HE : Hid (x ≠ y) := Lib.hid (by rintro rfl; simp at t0)
          have HR : Hid (b = false) := Lib.hid (by rw [← HB.out]; exact decide_eq_false (list_ne HX.out HY.out HE.out))
          go_wp2_with fail
          go_quiet (fail)
          go_wp2_with fail
          go_ret
          exact ⟨ret_bool HR.out.symm, HD.out.more nq⟩
        | true =>
          cases t1 : (x.slot == y.slot) with
          | false =>
            have HE : Hid (x ≠ y) := Lib.hid (by rintro rfl; simp at t1)
            have HR : Hid (b = false) := Lib.hid (by rw [← HB.out]; exact decide_eq_false (list_ne HX.out HY.out HE.out))
            go_wp2_with fail
            go_quiet (fail)
            go_wp2_with fail
            go_ret
            exact ⟨ret_bool HR.out.symm, HD.out.more nq⟩
          | true =>
            cases t2 : (x.left.toList == y.left.toList) with
            | false =>
              have HE : Hid (x ≠ y) := Lib.hid (by rintro rfl; simp at t2)
              have HR : Hid (b = false) := Lib.hid (by rw [← HB.out]; exact decide_eq_false (list_ne HX.out HY.out HE.out))
              go_wp2_with fail
              go_quiet (fail)
              go_wp2_with fail
              go_ret
              exact ⟨ret_bool HR.out.symm, HD.out.more nq⟩
            | true =>
              cases t3 : (x.right.toList == y.right.toList) with
              | false =>
                have HE : Hid (x ≠ y) := Lib.hid (by rintro rfl; simp at t3)
                have HR : Hid (b = false) := Lib.hid (by rw [← HB.out]; exact decide_eq_false (list_ne HX.out HY.out HE.out))
                go_wp2_with fail
                go_quiet (fail)
                go_wp2_with fail
                go_ret
                exact ⟨ret_bool HR.out.symm, HD.out.more nq⟩
              | true =>
                have HE : Hid (x = y) := Lib.hid (tk_eq t0 t1 t2 t3)
                have HR : Hid (L.take (k + 1) = M.take (k + 1)) := Lib.hid (by rw [take_snoc HX.out, take_snoc HY.out, HN.out, HE.out])
                go_wp2_with fail
                go_quiet (fail)
                go_wp2_with fail
                go_roundw
                case rel => exact ⟨k + 1, by omega, by go_num, HR, Lib.hid (HD.out.more nq)⟩
                case measure => simp [intOf]; omega
      · have HR : Hid (b = true) := Lib.hid (by rw [← HB.out]; have := HN.out; rw [List.take_of_length_le (by have := HL.out; omega), List.take_of_length_le (by have := HM.out; omega)] at this; exact decide_eq_true this)
        go_wp2_with fail
        go_ret
        exact ⟨ret_bool HR.out.symm, HD.out⟩
  · have t0 : ((n : Int) != (m : Int)) = true := by rw [bne_iff_ne]; omega
    have t3 : ¬ (n : Int) = m := by omega
    have HR : Hid (b = false) := Lib.hid (by rw [← HB.out]; exact decide_eq_false fun e => hl (by rw [← HL.out, ← HM.out, e]))
    clear hl
    go_enter Try.func24, Try.ntmps24
    go_wp2_with fail
    go_ret
    exact ⟨ret_bool HR.out.symm, Drew.refl _⟩

set_option maxHeartbeats 4000000 in
theorem rsame_any (r1 r2 : Int) (c1 c2 : Bool) (A B : Option Addr) (L M : List Tk) (n m c d : Nat) (b : Bool) (hb : decide ((⟨r1, c1, L⟩ : Qu) = ⟨r2, c2, M⟩) = b) (w : World) (ha : TasksAt w A L) (ha' : TasksAt w B M) (hn : L.length = n) (hm : M.length = m) (h1 : n ≤ 140737488355328) (h2 : m ≤ 140737488355328) :
    Calls Try.prog 10 #[.agg #[.int .i64 r1, .bool c1, .slice A n c], .agg #[.int .i64 r2, .bool c2, .slice B m d]] w fun e w' => e = .returned (.bool b) ∧ Below w.heap.size w w' := by
  have HA := Lib.hid ha
  have HA' := Lib.hid ha'
  have HB := Lib.hid hb
  have HL := Lib.hid hn
  have HM := Lib.hid hm
  obtain ⟨bt, hbt⟩ : ∃ bt, decide (L = M) = bt := ⟨_, rfl⟩
  have HBT := Lib.hid hbt
  clear ha ha' hb hn hm hbt
  go_enter Try.func10, Try.ntmps10
  go_upto_region 1 with (fail)
  have hb0 : Blk ((w.alloc (.cells #[.int .i64 r1, .bool c1, .slice A n c] 24)).alloc (.cells #[.int .i64 r2, .bool c2, .slice B m d] 24)) w.heap.size 24 #[.int .i64 r1, .bool c1, .slice A n c] := (Blk.new w _ _).alloc _
  have hb1 : Blk ((w.alloc (.cells #[.int .i64 r1, .bool c1, .slice A n c] 24)).alloc (.cells #[.int .i64 r2, .bool c2, .slice B m d] 24)) (w.heap.size + 1) 24 #[.int .i64 r2, .bool c2, .slice B m d] := by
    have := Blk.new (w.alloc (.cells #[.int .i64 r1, .bool c1, .slice A n c] 24)) 24 #[.int .i64 r2, .bool c2, .slice B m d]
    have h2 : Blk ((w.alloc (.cells #[.int .i64 r1, .bool c1, .slice A n c] 24)).alloc (.cells #[.int .i64 r2, .bool c2, .slice B m d] 24)) (w.heap.size + 1) 24 #[.int .i64 r2, .bool c2, .slice B m d] := by simpa [Nat.add_assoc] using this
    exact h2
  have hw0 : Below w.heap.size w ((w.alloc (.cells #[.int .i64 r1, .bool c1, .slice A n c] 24)).alloc (.cells #[.int .i64 r2, .bool c2, .slice B m d] 24)) := ((Below.refl _ _).alloc (Nat.le_refl _) _).alloc (by simp) _
  obtain ⟨w1, hw1⟩ : ∃ w1, w1 = (w.alloc (.cells #[.int .i64 r1, .bool c1, .slice A n c] 24)).alloc (.cells #[.int .i64 r2, .bool c2, .slice B m d] 24) := ⟨_, rfl⟩
  obtain ⟨gq, hgq⟩ : ∃ g, g = w.heap.size := ⟨_, rfl⟩
  obtain ⟨gr, hgr⟩ : ∃ g, g = w.heap.size + 1 := ⟨_, rfl⟩
  rw [← hw1] at hb0 hb1 hw0 ⊢
  rw [← hgr] at hb1 ⊢
  rw [← hgq] at hb0
  have HGq : Hid (w.heap.size ≤ gq) := Lib.hid (by omega)
  have HGr : Hid (w.heap.size ≤ gr) := Lib.hid (by omega)
  have HNrq : Hid (gr ≠ gq) := Lib.hid (by omega)
  rw [show (⟨w.heap.size, 0, none⟩ : Addr) = ⟨gq, 0, none⟩ from by rw [hgq]]
  have HBq := Lib.hid hb0
  have HBr := Lib.hid hb1
  have HW := Lib.hid hw0
  clear hb0 hb1 hw0 hw1 hgq hgr

  obtain ⟨y0, y1, y2⟩ := blk3 HBq.out
  obtain ⟨z0, z1, z2⟩ := blk3 HBr.out
  go_wp2_with fail
  refine (rtasks_any A B L M n m c d bt HBT.out _ (HA.out.up HW.out) (HA'.out.up HW.out) HL.out HM.out h1 h2).mono ?_
  rintro e w2 ⟨rfl, hq⟩
  have hb2 := hq.below
  have HBq := Lib.hid (HBq.out.below hb2 HBq.out.lt)
  have HBr := Lib.hid (HBr.out.below hb2 HBr.out.lt)
  have HW := Lib.hid (below_step HW.out hb2)

  clear hb2 hq y0 y1 y2 z0 z1 z2
  obtain ⟨y0, y1, y2⟩ := blk3 HBq.out
  obtain ⟨z0, z1, z2⟩ := blk3 HBr.out
  cases bt with
  | false =>
    have HR : Hid (b = false) := Lib.hid (by rw [← HB.out]; exact decide_eq_false fun e => (of_decide_eq_false HBT.out) (congrArg Qu.tasks e))
    go_wp2_with fail
    go_ret
    exact ⟨ret_bool HR.out.symm, HW.out⟩
  | true =>
    cases t1 : (r1 == r2) with
    | false =>
      have HR : Hid (b = false) := Lib.hid (by rw [← HB.out]; exact decide_eq_false fun e => by have := congrArg Qu.room e; simp at this; simp [this] at t1)
      go_wp2_with fail
      go_ret
      exact ⟨ret_bool HR.out.symm, HW.out⟩
    | true =>
      have HE : Hid (r1 = r2) := Lib.hid (by simpa using t1)
      cases t2 : (c1 == c2) with
      | false =>
        have HR : Hid (b = false) := Lib.hid (by rw [← HB.out]; exact decide_eq_false fun e => by have := congrArg Qu.closed e; simp at this; simp [this] at t2)
        go_wp2_with fail
        go_ret
        exact ⟨ret_bool HR.out.symm, HW.out⟩
      | true =>
        have HR : Hid (b = true) := Lib.hid (by
          rw [← HB.out]
          have e2 : c1 = c2 := by simpa using t2
          have e3 : L = M := of_decide_eq_true HBT.out
          exact decide_eq_true (by rw [HE.out, e2, e3]))
        go_wp2_with fail
        go_ret
        exact ⟨ret_bool HR.out.symm, HW.out⟩

end Go.Proofs.Ytaelenjnjoeheaa
