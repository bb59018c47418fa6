/-
  collatorlaw14.Turned: whatever it tells is a cache whose numbers and texts a machine can hold. Nothing that was there is changed.
-/
import Derived.Test.YtjifmfgfmciaeaaLw
import Derived.Deep.CutBlock
namespace Go.Proofs.Ytjifmfgfmciaeaa
open Go.RowKit

/-- what a machine can hold, and not too much of it -/
def CaSmall (c : Ca) : Prop := CaFit c ∧ sizeC c ≤ 900
theorem zero_fit : CaFit zeroC := ⟨by decide, (fun L hL => by cases hL), ⟨by decide, by decide⟩, ⟨by decide, by decide⟩, ⟨by decide, by decide⟩, ⟨by decide, by decide⟩, ⟨by decide, by decide⟩, ⟨by decide, by decide⟩⟩
theorem CaSmall.good {c : Ca} (h : CaSmall c) (hr : rightC c = true) : Good c 900 := ⟨rightC_iff.1 hr, h.2, fun L hL => (h.1.each L hL).2⟩
theorem CaSmall.get {c : Ca} (h : CaSmall c) (l r : ByteArray) : CaFit (getC c l r).2.1 := by
  cases hr : rightC c with
  | true => exact ((h.good hr).get l r).fit (by omega)
  | false => rw [show getC c l r = (⟨#[]⟩, zeroC, 1) from by unfold getC; rw [hr]; rfl]; exact zero_fit
theorem CaSmall.put {c : Ca} (h : CaSmall c) (l r v : ByteArray) (hl : l.size ≤ 4096) (hr : r.size ≤ 4096) (hv : v.size ≤ 4096) : CaFit (putC c l r v).1 := by
  cases hc : rightC c with
  | true => exact ((h.good hc).put l r v hl hr hv).fit (by omega)
  | false => rw [show putC c l r v = (zeroC, 1) from by unfold putC; rw [hc]; rfl]; exact zero_fit
theorem new_fit (p r w : Int) : CaFit (newC p r w).1 := by
  cases hf : fitsB p r w with
  | true => exact (Good.new hf).fit (by omega)
  | false => rw [show newC p r w = (zeroC, 1) from by unfold newC; rw [hf]; rfl]; exact zero_fit
/-- behind the switch -/
def TurnCut (w : World) (gt h : Nat) (wx : World) : Prop :=
  ∃ (d : Ca) (A : Option Addr) (n cap : Nat), CaSmall d ∧ d.parts.length = n ∧ n ≤ cap ∧ Blk wx gt 28 #[.int .i64 d.width, .int .i64 d.room, .slice A n cap, .int .i64 d.hits, .int .i64 d.misses, .int .i64 d.clashes, .int .i64 d.evicted] ∧ Blk wx h 28 #[.int .i64 0, .int .i64 0, .slice none 0 0, .int .i64 0, .int .i64 0, .int .i64 0, .int .i64 0] ∧ PartsAt (fun b => b = h) wx A d.parts ∧ Below w.heap.size w wx
def TurnTold (w : World) (e : Ending) (w' : World) : Prop := ∃ d, CaSmall d ∧ CacheTold d w e w'

set_option maxHeartbeats 16000000 in
set_option maxRecDepth 100000 in
theorem turned_any (c : Ca) (A : Option Addr) (n cap : Nat) (which x : Int) (w : World) (ha : PartsAt (fun _ => False) w A c.parts) (hn : c.parts.length = n) (hcp : n ≤ cap) (h1 : 1 ≤ n) (h2 : n ≤ 900) (hf : CaFit c) (hs : sizeC c ≤ 100) (hw : I64 which) (hx : I64 x) :
    Calls Try.prog 15 #[.agg #[.int .i64 c.width, .int .i64 c.room, .slice A n cap, .int .i64 c.hits, .int .i64 c.misses, .int .i64 c.clashes, .int .i64 c.evicted], .int .i64 which, .int .i64 x] w (TurnTold w) := by
  have HP := Lib.hid ha
  have HF := Lib.hid hf
  have HSZ := Lib.hid hs
  have HX := Lib.hid hx
  have HN := Lib.hid hn
  obtain ⟨p, hp⟩ : ∃ p, pickI which 8 = p := ⟨_, rfl⟩
  obtain ⟨p1, p2⟩ := pickI_range which 8 (by omega)
  rw [hp] at p1 p2
  have HQ := Lib.hid hp
  have HWH := Lib.hid hw
  clear ha hf hs hx hp hw hn
  go_enter Try.func15, Try.ntmps15
  go_wp2_with fail
  have hb0 : Blk ((w.alloc (.cells #[.int .i64 c.width, .int .i64 c.room, .slice A n cap, .int .i64 c.hits, .int .i64 c.misses, .int .i64 c.clashes, .int .i64 c.evicted] 28)).alloc (.cells #[.int .i64 0, .int .i64 0, .slice none 0 0, .int .i64 0, .int .i64 0, .int .i64 0, .int .i64 0] 28)) w.heap.size 28 #[.int .i64 c.width, .int .i64 c.room, .slice A n cap, .int .i64 c.hits, .int .i64 c.misses, .int .i64 c.clashes, .int .i64 c.evicted] := (Blk.new w _ _).alloc _
  have hb2 : Blk ((w.alloc (.cells #[.int .i64 c.width, .int .i64 c.room, .slice A n cap, .int .i64 c.hits, .int .i64 c.misses, .int .i64 c.clashes, .int .i64 c.evicted] 28)).alloc (.cells #[.int .i64 0, .int .i64 0, .slice none 0 0, .int .i64 0, .int .i64 0, .int .i64 0, .int .i64 0] 28)) (w.heap.size + 1) 28 #[.int .i64 0, .int .i64 0, .slice none 0 0, .int .i64 0, .int .i64 0, .int .i64 0, .int .i64 0] := by
    have := Blk.new (w.alloc (.cells #[.int .i64 c.width, .int .i64 c.room, .slice A n cap, .int .i64 c.hits, .int .i64 c.misses, .int .i64 c.clashes, .int .i64 c.evicted] 28)) 28 #[.int .i64 0, .int .i64 0, .slice none 0 0, .int .i64 0, .int .i64 0, .int .i64 0, .int .i64 0]
    simpa using this
  have hw0 : Below w.heap.size w ((w.alloc (.cells #[.int .i64 c.width, .int .i64 c.room, .slice A n cap, .int .i64 c.hits, .int .i64 c.misses, .int .i64 c.clashes, .int .i64 c.evicted] 28)).alloc (.cells #[.int .i64 0, .int .i64 0, .slice none 0 0, .int .i64 0, .int .i64 0, .int .i64 0, .int .i64 0] 28)) := ((Below.refl _ _).alloc (Nat.le_refl _) _).alloc (by simp) _
  obtain ⟨w1, hwe⟩ : ∃ w1, w1 = (w.alloc (.cells #[.int .i64 c.width, .int .i64 c.room, .slice A n cap, .int .i64 c.hits, .int .i64 c.misses, .int .i64 c.clashes, .int .i64 c.evicted] 28)).alloc (.cells #[.int .i64 0, .int .i64 0, .slice none 0 0, .int .i64 0, .int .i64 0, .int .i64 0, .int .i64 0] 28) := ⟨_, rfl⟩
  obtain ⟨gt, hg⟩ : ∃ g, g = w.heap.size := ⟨_, rfl⟩
  obtain ⟨h, hh⟩ : ∃ h, h = w.heap.size + 1 := ⟨_, rfl⟩
  rw [← hwe] at hb0 hb2 hw0 ⊢
  rw [← hh] at hb2 ⊢
  rw [← hg] at hb0
  rw [show (⟨w.heap.size, 0, none⟩ : Addr) = ⟨gt, 0, none⟩ from by rw [hg]]
  have HG : Hid (w.heap.size ≤ gt ∧ w.heap.size ≤ h ∧ gt ≠ h) := Lib.hid (by omega)
  have HBT := Lib.hid hb0
  have HBH := Lib.hid hb2
  have HW1 := Lib.hid hw0
  have HP1 : Hid (PartsAt (fun b => b = gt ∨ b = h) w1 A c.parts) := Lib.hid ((((HP.out.add (show w.heap.size ≤ gt by omega)).add (show w.heap.size ≤ h by omega)).less (fun b hb => by rcases hb with e | e; exact .inl (.inr e); exact .inr e)).up hw0)
  clear hb0 hb2 hw0 hwe hg hh
  refine (pick_v which 8 p HQ.out _ HWH.out (by omega) (by omega)).mono ?_
  rintro e w' ⟨rfl, rfl⟩
  go_upto_block 0 with (fail)
  go_cut [] (fun wx => TurnCut w gt h wx)
  case first =>
    have hpp : p = 0 ∨ p = 1 ∨ p = 2 ∨ p = 3 ∨ p = 4 ∨ p = 5 ∨ p = 6 ∨ p = 7 := by omega
    clear p1 p2 HQ
    obtain ⟨y0, y1, y2, y3, y4, y5, y6⟩ := box7 HBT.out (Below.refl _ _)
    have q0 := Blk.frozen HBT.out 0
    have q1 := Blk.frozen HBT.out 1
    have q2 := Blk.frozen HBT.out 2
    have q3 := Blk.frozen HBT.out 3
    have q4 := Blk.frozen HBT.out 4
    have q5 := Blk.frozen HBT.out 5
    have q6 := Blk.frozen HBT.out 6
    have hlt := HBT.out.lt
    rcases hpp with rfl | rfl | rfl | rfl | rfl | rfl | rfl | rfl
    -- MARK0
    · have HS := Lib.hid (Blk.set_ HBT.out 0 (.int .i64 x))
      go_wp2_with fail
      go_meet
      have hg := grown_set w1 gt 0 (.int .i64 x)
      exact ⟨{c with width := x}, A, n, cap, ⟨{ len := HF.out.len, each := HF.out.each, width := HX.out, room := HF.out.room, hits := HF.out.hits, misses := HF.out.misses, clashes := HF.out.clashes, evicted := HF.out.evicted }, (Nat.le_trans HSZ.out (by omega) : sizeC c ≤ 900)⟩, HN.out, hcp, HS.out, Blk.grown HBH.out hg (fun e => HG.out.2.2 (Option.some.inj e).symm), (HP1.out.kept hg (.inl rfl)).less (fun b hb => .inr hb), HW1.out.setCell HG.out.1 _⟩
    · have HS := Lib.hid (Blk.set_ HBT.out 1 (.int .i64 x))
      go_wp2_with fail
      go_meet
      have hg := grown_set w1 gt 1 (.int .i64 x)
      exact ⟨{c with room := x}, A, n, cap, ⟨{ len := HF.out.len, each := HF.out.each, width := HF.out.width, room := HX.out, hits := HF.out.hits, misses := HF.out.misses, clashes := HF.out.clashes, evicted := HF.out.evicted }, (Nat.le_trans HSZ.out (by omega) : sizeC c ≤ 900)⟩, HN.out, hcp, HS.out, Blk.grown HBH.out hg (fun e => HG.out.2.2 (Option.some.inj e).symm), (HP1.out.kept hg (.inl rfl)).less (fun b hb => .inr hb), HW1.out.setCell HG.out.1 _⟩
    · have HS := Lib.hid (Blk.set_ HBT.out 3 (.int .i64 x))
      go_wp2_with fail
      go_meet
      have hg := grown_set w1 gt 3 (.int .i64 x)
      exact ⟨{c with hits := x}, A, n, cap, ⟨{ len := HF.out.len, each := HF.out.each, width := HF.out.width, room := HF.out.room, hits := HX.out, misses := HF.out.misses, clashes := HF.out.clashes, evicted := HF.out.evicted }, (Nat.le_trans HSZ.out (by omega) : sizeC c ≤ 900)⟩, HN.out, hcp, HS.out, Blk.grown HBH.out hg (fun e => HG.out.2.2 (Option.some.inj e).symm), (HP1.out.kept hg (.inl rfl)).less (fun b hb => .inr hb), HW1.out.setCell HG.out.1 _⟩
    · have HS := Lib.hid (Blk.set_ HBT.out 4 (.int .i64 x))
      go_wp2_with fail
      go_meet
      have hg := grown_set w1 gt 4 (.int .i64 x)
      exact ⟨{c with misses := x}, A, n, cap, ⟨{ len := HF.out.len, each := HF.out.each, width := HF.out.width, room := HF.out.room, hits := HF.out.hits, misses := HX.out, clashes := HF.out.clashes, evicted := HF.out.evicted }, (Nat.le_trans HSZ.out (by omega) : sizeC c ≤ 900)⟩, HN.out, hcp, HS.out, Blk.grown HBH.out hg (fun e => HG.out.2.2 (Option.some.inj e).symm), (HP1.out.kept hg (.inl rfl)).less (fun b hb => .inr hb), HW1.out.setCell HG.out.1 _⟩
    · have HS := Lib.hid (Blk.set_ HBT.out 6 (.int .i64 x))
      go_wp2_with fail
      go_meet
      have hg := grown_set w1 gt 6 (.int .i64 x)
      exact ⟨{c with evicted := x}, A, n, cap, ⟨{ len := HF.out.len, each := HF.out.each, width := HF.out.width, room := HF.out.room, hits := HF.out.hits, misses := HF.out.misses, clashes := HF.out.clashes, evicted := HX.out }, (Nat.le_trans HSZ.out (by omega) : sizeC c ≤ 900)⟩, HN.out, hcp, HS.out, Blk.grown HBH.out hg (fun e => HG.out.2.2 (Option.some.inj e).symm), (HP1.out.kept hg (.inl rfl)).less (fun b hb => .inr hb), HW1.out.setCell HG.out.1 _⟩
    · obtain ⟨R, hR, hok⟩ := HP1.out.rows
      have HOK := Lib.hid hok
      obtain ⟨A2, c2, w2, hrun, hown, hgr⟩ := append_rows (OwnR.nil w1) n cap hR (hok.1.trans HN.out) R rfl (by rw [hok.1, HN.out]; omega)
      obtain ⟨g2, cs2, rfl, hbk2, -⟩ := hown.filled rs_len (by rw [hok.1, HN.out]; omega)
      have hlt2 := hbk2.lt
      have HR2 := Lib.hid hrun
      have hb2 : Below w1.heap.size w1 w2 := hown.2
      obtain ⟨w4, hw4⟩ : ∃ w4, w4 = (w2.alloc (.cells #[.int .u64 0, .int .i64 0, .string ⟨#[97]⟩, .string ⟨#[]⟩, .string ⟨#[]⟩] 63)).alloc (.cells #[.slice (some ⟨w2.heap.size, 0, none⟩) 1 1] 58) := ⟨_, rfl⟩
      have hb4 : Below w2.heap.size w2 w4 := by rw [hw4]; exact ((Below.refl _ _).alloc (Nat.le_refl _) _).alloc (by simp) _
      have hk1 : Blk w4 w2.heap.size 63 #[.int .u64 0, .int .i64 0, .string ⟨#[97]⟩, .string ⟨#[]⟩, .string ⟨#[]⟩] := by rw [hw4]; exact (Blk.new w2 _ _).alloc _
      have hk2 : Blk w4 (w2.heap.size + 1) 58 #[.slice (some ⟨w2.heap.size, 0, none⟩) 1 1] := by
        rw [hw4]
        have := Blk.new (w2.alloc (.cells #[.int .u64 0, .int .i64 0, .string ⟨#[97]⟩, .string ⟨#[]⟩, .string ⟨#[]⟩] 63)) 58 #[.slice (some ⟨w2.heap.size, 0, none⟩) 1 1]
        simpa using this
      obtain ⟨Y, hY⟩ : ∃ Y : List RS, Y = R ++ [(some ⟨w2.heap.size, 0, none⟩, 1, 1)] := ⟨_, rfl⟩
      have hYl : Y.length = n + 1 := by rw [hY, List.length_append, hok.1, HN.out]; rfl
      obtain ⟨A5, c5, w5, hrun5, hown5, hgr5⟩ := append_rows (hown.up hb4) (M := [(some ⟨w2.heap.size, 0, none⟩, 1, 1)]) 1 1 (RowAt.of_blk rs_len (L := [((some ⟨w2.heap.size, 0, none⟩, 1, 1) : RS)]) hk2) rfl Y hY (by omega)
      obtain ⟨gy, cs, rfl, -, -, -, hgy, -, hcy, -⟩ := hown5.filled rs_len (by omega)
      have HR5 := Lib.hid hrun5
      rw [hw4] at HR5
      have hb5 : Below w1.heap.size w1 w5 := hown5.2
      have HBT5 := Lib.hid (Blk.below HBT.out hb5 HBT.out.lt)
      have HBH5 := Lib.hid (Blk.below HBH.out hb5 HBH.out.lt)
      have HS := Lib.hid (Blk.set_ HBT5.out 2 (.slice (some ⟨gy, 0, none⟩) Y.length c5))
      have HW5 := Lib.hid (below_step HW1.out hb5)
      have HPY : Hid (PartsAt (fun b => b = gt ∨ b = h) w5 (some ⟨gy, 0, none⟩) (c.parts ++ [[⟨0, 0, ⟨#[97]⟩, ⟨#[]⟩, ⟨#[]⟩⟩]])) := Lib.hid (by
        have hgt := HBT.out.lt
        have hht := HBH.out.lt
        refine PartsAt.of_rows (R := Y) (RowAt.of_own rs_len hown5.1 rfl) ⟨by rw [hYl, List.length_append, HN.out]; rfl, fun i L hi => ?_⟩ (fun a e => by injection e with e; subst e; show ¬ (gy = gt ∨ gy = h); omega)
        rw [List.getElem?_append] at hi
        rw [hY, List.getElem?_append, hok.1]
        split at hi
        · rename_i hlt
          rw [if_pos hlt]
          exact (hok.up hb5).2 i L hi
        · rename_i hlt
          rw [if_neg hlt]
          obtain ⟨e, rfl⟩ : i - c.parts.length = 0 ∧ L = [⟨0, 0, ⟨#[97]⟩, ⟨#[]⟩, ⟨#[]⟩⟩] := by
            cases hd : i - c.parts.length with
            | zero => rw [hd] at hi; exact ⟨rfl, (by simpa using hi.symm)⟩
            | succ j => rw [hd] at hi; simp at hi
          rw [e]
          refine ⟨some ⟨w2.heap.size, 0, none⟩, 1, rfl, ?_, Nat.le_refl _, fun b _ e => by injection e with e; subst e; show ¬ (w2.heap.size = gt ∨ w2.heap.size = h); have := hb2.size; omega⟩
          exact RowAt.of_blk sl_len (L := [(⟨0, 0, ⟨#[97]⟩, ⟨#[]⟩, ⟨#[]⟩⟩ : Sl)]) (Blk.grown hk1 hgr5 (fun e => by have e' : w2.heap.size = g2 := Option.some.inj e; omega)))
      have HC5 : Hid (Y.length ≤ c5) := Lib.hid hcy
      have HYL := Lib.hid hYl
      obtain ⟨y0', y1', y2', y3', y4', y5', y6'⟩ := box7 HBT5.out (Below.refl _ _)
      have q5' := Blk.frozen HBT5.out 2
      have hlt5 := HBT5.out.lt
      clear hbk2 hlt2 hrun hrun5 hok hown hown5 hgr hgr5 hb2 hb4 hk1 hk2 hw4 hR hb5 hY hYl hcy
      go_wp2_with (at_builtin; first | refine wpList_append_run rfl rfl (by simp [Region.wanted]) rfl rfl HR2.out ?_ | refine wpList_append_run rfl rfl (by simp [Region.wanted]) rfl rfl HR5.out ?_)
      go_meet
      have hg := grown_set w5 gt 2 (.slice (some ⟨gy, 0, none⟩) Y.length c5)
      exact ⟨{c with parts := c.parts ++ [[⟨0, 0, ⟨#[97]⟩, ⟨#[]⟩, ⟨#[]⟩⟩]]}, some ⟨gy, 0, none⟩, Y.length, c5,
       ⟨{ len := by show (c.parts ++ [_]).length ≤ 1000; rw [List.length_append, HN.out]; show n + 1 ≤ 1000; omega
          each := fun L hL => by
            rcases List.mem_append.1 hL with hL | hL
            · exact HF.out.each L hL
            · rw [List.mem_singleton.1 hL]
              exact ⟨by decide, fun x hx => by rw [List.mem_singleton.1 hx]; exact ⟨⟨by decide, by decide, by decide⟩, by decide, by decide⟩⟩
          width := HF.out.width, room := HF.out.room, hits := HF.out.hits, misses := HF.out.misses, clashes := HF.out.clashes, evicted := HF.out.evicted }, by
          show ((c.parts ++ [_]).map List.length).sum ≤ 900
          have := HSZ.out
          unfold sizeC at this
          rw [List.map_append, List.sum_append]
          simp only [List.map_cons, List.map_nil, List.sum_cons, List.sum_nil, List.length_cons, List.length_nil]
          omega⟩,
        by show (c.parts ++ [_]).length = _; rw [HYL.out, List.length_append, HN.out]; rfl, HC5.out, HS.out, Blk.grown HBH5.out hg (fun e => HG.out.2.2 (Option.some.inj e).symm), (HPY.out.kept hg (.inl rfl)).less (fun b hb => .inr hb), HW5.out.setCell HG.out.1 _⟩
    · have HS := Lib.hid (Blk.set_ HBT.out 5 (.int .i64 x))
      go_wp2_with fail
      go_meet
      have hg := grown_set w1 gt 5 (.int .i64 x)
      exact ⟨{c with clashes := x}, A, n, cap, ⟨{ len := HF.out.len, each := HF.out.each, width := HF.out.width, room := HF.out.room, hits := HF.out.hits, misses := HF.out.misses, clashes := HX.out, evicted := HF.out.evicted }, (Nat.le_trans HSZ.out (by omega) : sizeC c ≤ 900)⟩, HN.out, hcp, HS.out, Blk.grown HBH.out hg (fun e => HG.out.2.2 (Option.some.inj e).symm), (HP1.out.kept hg (.inl rfl)).less (fun b hb => .inr hb), HW1.out.setCell HG.out.1 _⟩
    · obtain ⟨aP, rfl, -, -, -⟩ := HP1.out (by intro e; have := HN.out; rw [e] at this; simp at this; omega)
      obtain ⟨k, rfl⟩ : ∃ k, n = k + 1 := ⟨n - 1, by omega⟩
      have hwk : IntKind.i64.wrap (((k + 1 : Nat) : Int) - 1) = (k : Int) := by rw [IntWalk.i64_in _ (by omega)]; omega
      obtain ⟨R, hR, hok⟩ := HP1.out.rows
      have HOK := Lib.hid hok
      have hkl : (R.take k).length = k := by rw [List.length_take, hok.1, HN.out]; omega
      obtain ⟨A2, c2, w2, hrun, hown, hgr⟩ := append_rows (OwnR.nil w1) k cap (hR.take k) hkl (R.take k) rfl (by omega)
      rw [hkl] at hrun hown
      have HR2 := Lib.hid hrun
      have hb2 : Below w1.heap.size w1 w2 := hown.2
      have HBT2 := Lib.hid (Blk.below HBT.out hb2 HBT.out.lt)
      have HBH2 := Lib.hid (Blk.below HBH.out hb2 HBH.out.lt)
      have HS := Lib.hid (Blk.set_ HBT2.out 2 (.slice A2 k c2))
      have HW2 := Lib.hid (below_step HW1.out hb2)
      have HC2 : Hid (k ≤ c2) := Lib.hid (by have := (OwnR.cap hown).1; omega)
      have HPY : Hid (PartsAt (fun b => b = gt ∨ b = h) w2 A2 (c.parts.take k)) := Lib.hid (by
        have hgt := HBT.out.lt
        have hht := HBH.out.lt
        refine PartsAt.of_rows (R := R.take k) (RowAt.of_own rs_len (by have := hown.1; rw [hkl] at this; exact this) hkl) ⟨by rw [hkl, List.length_take, HN.out]; omega, fun i L hi => ?_⟩ (fun a e => ?_)
        · rw [List.getElem?_take] at hi
          rw [List.getElem?_take]
          split at hi
          · rename_i hlt
            rw [if_pos hlt]
            exact (hok.up hb2).2 i L hi
          · cases hi
        · rcases hown.1.2 with ⟨e1, _⟩ | ⟨g, c', cur, e1, hb, _⟩
          · injection e1 with e1; rw [e1] at e; cases e
          · injection e1 with e1
            rw [e1] at e
            injection e with e
            subst e
            show ¬ (g = gt ∨ g = h)
            omega)
      obtain ⟨y0', y1', y2', y3', y4', y5', y6'⟩ := box7 HBT2.out (Below.refl _ _)
      have q5' := Blk.frozen HBT2.out 2
      have hlt5 := HBT2.out.lt
      clear hrun hok hown hgr hb2 hR hkl
      go_wp2_with (at_builtin; refine wpList_append_run rfl rfl (by simp [Region.wanted]) rfl rfl HR2.out ?_)
      go_meet
      have hg := grown_set w2 gt 2 (.slice A2 k c2)
      exact ⟨{c with parts := c.parts.take k}, A2, k, c2,
       ⟨{ len := by show (c.parts.take k).length ≤ 1000; rw [List.length_take, HN.out]; omega
          each := fun L hL => HF.out.each L (List.mem_of_mem_take hL)
          width := HF.out.width, room := HF.out.room, hits := HF.out.hits, misses := HF.out.misses, clashes := HF.out.clashes, evicted := HF.out.evicted }, by
          show ((c.parts.take k).map List.length).sum ≤ 900
          have := HSZ.out
          unfold sizeC at this
          have h := congrArg (fun l => (l.map List.length).sum) (List.take_append_drop k c.parts)
          simp only [List.map_append, List.sum_append] at h
          omega⟩,
        by show (c.parts.take k).length = k; rw [List.length_take, HN.out]; omega, HC2.out, HS.out, Blk.grown HBH2.out hg (fun e => HG.out.2.2 (Option.some.inj e).symm), (HPY.out.kept hg (.inl rfl)).less (fun b hb => .inr hb), HW2.out.setCell HG.out.1 _⟩
  case rest =>
    obtain ⟨d, A6, n6, cap6, hfd, hn6, hc6, hbt, hbh, hp6, hw6⟩ := hcut
    have HBH6 := Lib.hid hbh
    have HP6 := Lib.hid hp6
    have HW6 := Lib.hid hw6
    have HFD := Lib.hid hfd
    have HN6 := Lib.hid hn6
    obtain ⟨y0, y1, y2, y3, y4, y5, y6⟩ := box7 hbt (Below.refl _ _)
    obtain ⟨x0, x1, x2, x3, x4, x5, x6⟩ := box7 hbh (Below.refl _ _)
    have q0' := Blk.frozen hbh 0
    have q1' := Blk.frozen hbh 1
    have q2' := Blk.frozen hbh 2
    have q3' := Blk.frozen hbh 3
    have q4' := Blk.frozen hbh 4
    have q5' := Blk.frozen hbh 5
    have q6' := Blk.frozen hbh 6
    clear hfd hn6 hbt hbh hp6 hw6
    go_wp2_with fail
    refine bodyPost_ret (v := .agg #[.int .i64 d.width, .int .i64 d.room, .slice A6 n6 cap6, .int .i64 d.hits, .int .i64 d.misses, .int .i64 d.clashes, .int .i64 d.evicted]) (by simp [results, Try.results15, go_sem, x0, x1, x2, x3, x4, x5, x6]) rfl ?_
    obtain ⟨-, hgn⟩ := set7 HBH6.out d.width d.room A6 n6 cap6 d.hits d.misses d.clashes d.evicted
    exact ⟨d, HFD.out, A6, n6, cap6, rfl, HN6.out, PartsAt.less (PartsAt.kept HP6.out hgn rfl) (fun _ (e : False) => e.elim), HW6.out.grown hgn HW6.out.size (fun b e => by injection e with e; rw [← e]; exact HG.out.2.1), hc6⟩

end Go.Proofs.Ytjifmfgfmciaeaa
