/-
  collatorref15.Begin tells what beginF says. Nothing that was there is changed.
-/
import Derived.Test.YtllkegonhghkcaaRoc
namespace Go.Proofs.Ytllkegonhghkcaa
open Go.RowKit P15

/-- what a Begin tells -/
def BegTold (t : Bool × List Fl × Int) (w : World) (e : Ending) (w' : World) : Prop :=
  ∃ (A : Option Addr) (n c : Nat), e = .returned (.tuple #[.bool t.1, .slice A n c, .int .i64 t.2.2]) ∧ t.2.1.length = n ∧ n ≤ c ∧ FillsAt w' A t.2.1 ∧ Below w.heap.size w w'
theorem mem_txts_take {L : List Fl} {k : Nat} {x : Fl} {l r : ByteArray} (hx : L[k]? = some x) (hn : (l, r) ∉ txts (L.take k)) (h : x.left ≠ l ∨ x.right ≠ r) : (l, r) ∉ txts (L.take (k + 1)) := by
  rw [txts_take hx]
  intro hm
  rcases List.mem_append.1 hm with hm | hm
  · exact hn hm
  · have e := List.mem_singleton.1 hm
    have e1 : l = x.left := congrArg Prod.fst e
    have e2 : r = x.right := congrArg Prod.snd e
    rcases h with h | h
    · exact h e1.symm
    · exact h e2.symm
theorem own_nil_ints (w : World) : OwnI w w (.slice none 0 0) [] := OwnR.nil w

set_option maxHeartbeats 4000000 in
set_option maxRecDepth 100000 in
theorem rbegin_any (A : Option Addr) (L : List Fl) (n c : Nat) (l r : ByteArray) (who : Int) (w : World) (t : Bool × List Fl × Int) (ht : beginF L l r who = t) (ha : FillsAt w A L) (hn : L.length = n) (hf : FitF L) :
    Calls Try.prog 15 #[.slice A n c, .string l, .string r, .int .i64 who] w (BegTold t w) := by
  subst hn
  obtain ⟨bo, hbo⟩ : ∃ bo, rightB L = bo := ⟨_, rfl⟩
  have HBO := Lib.hid hbo
  have HT := Lib.hid ht
  have HA := Lib.hid ha
  have HF := Lib.hid hf
  have hl := hf.len
  clear hbo ht ha hf
  go_enter Try.func15, Try.ntmps15
  go_wp2_with fail
  refine (rright_any A L L.length c bo HBO.out _ HA.out rfl HF.out).mono ?_
  rintro e w1 ⟨rfl, hb⟩
  have HW1 := Lib.hid hb
  clear hb
  cases bo with
  | false =>
    have HT2 : Hid (t = (false, [], 1)) := Lib.hid (by rw [← HT.out, beginF_wrong HBO.out])
    go_wp2_with fail
    go_ret3
    rw [HT2.out]
    exact ⟨none, 0, 0, rfl, rfl, Nat.le_refl _, FillsAt.nil, HW1.out⟩
  | true =>
    go_wp2_with fail
    refine (rall_any A L L.length c _ (HA.out.up HW1.out) rfl HF.out).mono ?_
    rintro e w2 ⟨A2, n2, c2, rfl, hn2, ho⟩
    have HI : Hid (IntsAt w2 A2 (nums L)) := Lib.hid (OwnR.at_ i_len ho hn2)
    have HN2 := Lib.hid hn2
    have HNL : Hid ((nums L).length ≤ 140737488355328) := Lib.hid (by have := HF.out.nums_len L.length; rw [List.take_length] at this; omega)
    have HW2 : Hid (Below w.heap.size w w2) := Lib.hid (HW1.out.trans (ho.2.mono HW1.out.size))
    clear ho hn2
    obtain ⟨bi, hbi⟩ : ∃ bi, decide (who ∈ nums L) = bi := ⟨_, rfl⟩
    have HBI := Lib.hid hbi
    clear hbi
    go_wp2_with fail
    refine (rin_any A2 (nums L) n2 c2 who bi HBI.out _ HI.out HN2.out HNL.out).mono ?_
    rintro e w3 ⟨rfl, rfl⟩
    cases bi with
    | true =>
      have HT2 : Hid (t = (false, [], 4)) := Lib.hid (by rw [← HT.out, beginF_twice HBO.out (of_decide_eq_true HBI.out)])
      go_wp2_with fail
      go_ret3
      rw [HT2.out]
      exact ⟨none, 0, 0, rfl, rfl, Nat.le_refl _, FillsAt.nil, HW2.out⟩
    | false =>
      have HNI : Hid (who ∉ nums L) := Lib.hid (of_decide_eq_false HBI.out)
      clear HI HN2 HNL HBI
      go_wp2_with fail
      go_loopw [12] (fun i wr => ∃ k : Nat, k ≤ L.length ∧ i = .int .i64 k ∧ Hid ((l, r) ∉ txts (L.take k)) ∧ Hid (Below w.heap.size w wr)) (fun i _ => L.length - (intOf i).toNat)
      case atStart => exact ⟨0, Nat.zero_le _, rfl, Lib.hid (by simp [txts]), HW2⟩
      case round =>
        obtain ⟨k, hk, rfl, HK, HW⟩ := hrel
        by_cases g1 : k < L.length
        · obtain ⟨x, hx⟩ : ∃ x, L[k]? = some x := ⟨_, List.getElem?_eq_getElem g1⟩
          obtain ⟨a, B, cw, rfl, hal, p0, p1, p2, p3, hi, hcw⟩ := (HA.out.up HW.out).at_ hx
          have HX := Lib.hid hx
          have HI := Lib.hid hi
          have hxw := (HF.out.each x (List.mem_of_getElem? hx)).1
          obtain ⟨m, hm⟩ : ∃ m, m = x.wait.length := ⟨_, rfl⟩
          have HM := Lib.hid hm
          rw [← hm] at p3 hcw hxw
          clear hx hi hm
          cases t1 : (x.left.toList == l.toList) with
          | false =>
            go_wp2_with fail
            go_roundw
            case rel => exact ⟨k + 1, by omega, by go_num, Lib.hid (mem_txts_take HX.out HK.out (.inl (text_ne t1))), Lib.hid (HW.out.trans (((Below.refl _ _).alloc (Nat.le_refl _) _).mono HW.out.size))⟩
            case measure => simp [intOf]; omega
          | true =>
            cases t2 : (x.right.toList == r.toList) with
            | false =>
              go_wp2_with fail
              go_roundw
              case rel => exact ⟨k + 1, by omega, by go_num, Lib.hid (mem_txts_take HX.out HK.out (.inr (text_ne t2))), Lib.hid (HW.out.trans (((Below.refl _ _).alloc (Nat.le_refl _) _).mono HW.out.size))⟩
              case measure => simp [intOf]; omega
            | true =>
              have e1 := text_eq t1
              have e2 := text_eq t2
              have HT2 : Hid (t = (false, L.set k ⟨x.left, x.right, x.by_, x.wait ++ [who]⟩, 0)) := Lib.hid (by
                rw [← HT.out, beginF_join HBO.out HNI.out (mem_txts.2 ⟨x, List.mem_of_getElem? HX.out, by unfold Fl.txt; rw [e1, e2]⟩), joined_set who (rightB_iff.1 HBO.out).1 HX.out (by unfold Fl.txt; rw [e1, e2])])
              clear e1 e2
              go_upto_region 11 with (fail)
              obtain ⟨g4, w4, hg4, hw4, hb4, hbe4⟩ := box_new wr 28 #[.string x.left, .string x.right, .int .i64 x.by_, .slice B m cw]
              rw [← hw4, ← hg4]
              obtain ⟨A5, c5, w5, hr5, ho5, hgr5⟩ := int_append (own_nil_ints w4) m cw (HI.out.up hbe4) HM.out.symm m (by simp) (by omega)
              have HR5 := Lib.hid hr5
              obtain ⟨A6, c6, w6, hr6, ho6, hgr6⟩ := int_push ho5 who (m + 1) (by rw [List.nil_append, HM.out]) (by omega)
              have HR6 := Lib.hid hr6
              have hb5 := Blk.below hb4 ho5.2 hb4.lt
              have hb6 := Blk.below hb4 ho6.2 hb4.lt
              have HB5 := Lib.hid hb5
              have HB6 := Lib.hid hb6
              have HO6 := Lib.hid ho6
              have HG4 : Hid (wr.heap.size ≤ g4) := Lib.hid (by omega)
              have HW4 := Lib.hid (HW.out.trans (hbe4.mono HW.out.size))
              have HGL := Lib.hid hb4.lt
              obtain ⟨y0, y1, y2, y3⟩ := blk4 hb4
              obtain ⟨z0, z1, z2, z3⟩ := blk4 hb6
              have q3 := Blk.frozen hb6 3
              clear p0 p1 p2 p3 hg4 hw4 hb4 hbe4 hr5 ho5 hgr5 hr6 ho6 hgr6 hb5 hb6
              go_wp2_with (first | (at_builtin; refine wpList_append_run rfl rfl (by simp [Region.wanted]) rfl rfl HR5.out ?_; clear HR5) | (at_builtin; refine wpList_append_run rfl rfl (by simp [Region.wanted]) rfl rfl HR6.out ?_; clear HR6))
              have HW7 : Hid (Below w.heap.size w (w6.setCell ⟨g4, 3, none⟩ (.slice A6 (m + 1) c6))) := Lib.hid ((HW4.out.trans (HO6.out.2.mono HW4.out.size)).setCell (Nat.le_trans HW.out.size HG4.out) _)
              refine (rwith_any (some a) L L.length c k x.left x.right x.by_ (x.wait ++ [who]) A6 (m + 1) c6 _ (HA.out.up HW7.out) rfl hl g1 (own_far HO6.out HB6.out (by decide) 3 _) (by rw [List.length_append, ← HM.out]; rfl) (OwnR.cap HO6.out |>.1 |> fun h => by rw [List.length_append, List.nil_append, ← HM.out] at h; exact h)).mono ?_
              rintro e w8 ⟨A8, n8, c8, rfl, hn8, hc8, hfa, hb8⟩
              have HFA := Lib.hid hfa
              have HN8 := Lib.hid hn8
              have HW8 : Hid (Below w.heap.size w w8) := Lib.hid (HW7.out.trans (hb8.mono HW7.out.size))
              clear hfa hn8 hb8 z0 z1 z2 z3 y0 y1 y2 y3 q3
              go_wp2_with fail
              go_ret3
              rw [HT2.out]
              exact ⟨A8, n8, c8, rfl, HN8.out, hc8, HFA.out, HW8.out⟩
        · have HT2 : Hid (t = (true, L ++ [⟨l, r, who, []⟩], 0)) := Lib.hid (by
            have := HK.out
            rw [List.take_of_length_le (by omega)] at this
            rw [← HT.out, beginF_new HBO.out HNI.out this])
          have hA9 := HA.out.up HW.out
          obtain ⟨A5, c5, w5, hr5, ho5, hgr5⟩ := (OwnC.nil wr).append L.length c hA9 rfl L.length (by simp) (by omega)
          obtain ⟨A6, c6, w6, hr6, ho6, hgr6⟩ := ho5.push l r who [] none 0 ⟨RowAt.nil, Nat.le_refl _⟩ 0 rfl (L.length + 1) (by rfl) (by omega)
          have HR5 := Lib.hid hr5
          have HR6 := Lib.hid hr6
          have HO6 := Lib.hid ho6
          clear hA9 hr5 ho5 hgr5 hr6 ho6 hgr6
          go_wp2_with (first | (at_builtin; refine wpList_append_run rfl rfl (by simp [Region.wanted]) rfl rfl HR5.out ?_; clear HR5) | (at_builtin; refine wpList_append_run rfl rfl (by simp [Region.wanted]) rfl rfl HR6.out ?_; clear HR6))
          go_ret3
          rw [HT2.out]
          obtain ⟨e1, e2, e3⟩ := HO6.out.at_
          exact ⟨A6, L.length + 1, c6, rfl, e1, e2, e3, HW.out.trans (HO6.out.below.mono HW.out.size)⟩

end Go.Proofs.Ytllkegonhghkcaa
