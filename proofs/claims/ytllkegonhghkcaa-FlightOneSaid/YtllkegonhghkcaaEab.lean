/-
  Package flight: each, with the closure of Begin: fills in memory of their own. Nothing that was there is changed.
-/
import Derived.Test.YtllkegonhghkcaaLoo
namespace Go.Proofs.Ytllkegonhghkcaa
open Go.RowKit Go.Maps P15

theorem CapB.grown {W W' : World} {gl gr gw gf : Nat} {l r : ByteArray} {who : Int} {fb : Bool} {row : Option Nat} (h : CapB W gl gr gw gf l r who fb) (hg : W.grownBy W' row) (hr : ∀ g, row = some g → ∃ cs, Blk W g 28 cs) : CapB W' gl gr gw gf l r who fb := by
  have hne : ∀ {g : Nat} {t : TypeId} {cs : Array Value}, Blk W g t cs → t ≠ 28 → some g ≠ row := fun hb ht e => by
    obtain ⟨ds, hd⟩ := hr _ e.symm
    exact blk_ne hb hd ht rfl
  exact ⟨Blk.grown h.left hg (hne h.left (by decide)), Blk.grown h.right hg (hne h.right (by decide)), Blk.grown h.who hg (hne h.who (by decide)), Blk.grown h.first hg (hne h.first (by decide)), h.ne⟩
/-- the list so far stays while one block of another type changes -/
theorem OwnF.past {w0 w w' : World} {v : Value} {L : List Fl} {R : List Fw} {g : Nat} {t : TypeId} {cs : Array Value} (h : OwnF w0 w v L R) (hg : w.grownBy w' (some g)) (hb : Blk w g t cs) (h1 : t ≠ 3) (h2 : t ≠ 28) (hn : w0.heap.size ≤ g) : OwnF w0 w' v L R :=
  h.keep (fun _ _ hk => Blk.grown hk hg fun e => blk_ne hb hk h1 (Option.some.inj e).symm) (fun _ _ hk => Blk.grown hk hg fun e => blk_ne hb hk h2 (Option.some.inj e).symm) (h.row.2.grown hg h.row.2.size fun k e => by rw [← Option.some.inj e]; exact hn)
theorem joined_nil (l r : ByteArray) (who : Int) : joined [] l r who = [] := rfl
theorem joined_snoc (L : List Fl) (x : Fl) (l r : ByteArray) (who : Int) : joined (L ++ [x]) l r who = joined L l r who ++ [⟨x.left, x.right, x.by_, if (x.left, x.right) = (l, r) then x.wait ++ [who] else x.wait⟩] := by
  unfold joined
  rw [List.map_append, List.map_cons, List.map_nil]
  congr 2
  by_cases h : (x.left, x.right) = (l, r)
  · rw [if_pos (show x.txt = (l, r) from h), if_pos h]
  · rw [if_neg (show ¬ x.txt = (l, r) from h), if_neg h]
theorem hasT_snoc (L : List Fl) (x : Fl) (l r : ByteArray) : hasT (L ++ [x]) l r = (hasT L l r || decide ((x.left, x.right) = (l, r))) := by
  unfold hasT
  rw [List.any_append, List.any_cons, List.any_nil, Bool.or_false]
  rfl
theorem OwnF.push2 {w0 W : World} {v : Value} {L : List Fl} {R : List Fw} (h : OwnF w0 W v L R) (l r : ByteArray) (b : Int) (wt : List Int) (B : Option Addr) (d : Nat) (hx : IntsT W ⟨l, r, b, wt, B, d⟩) (hnew : wt ≠ [] → ∀ a, B = some a → w0.heap.size ≤ a.block) (j : Nat) (hj : wt.length = j) (m : Nat) (hm : L.length + 1 = m) (hL : m ≤ 1048576) :
    ∃ A' c' W' R', (Builtin.append_ #[22, 22] 22 #[v, .slice (some ⟨W.heap.size, 0, none⟩) 1 1]).run Try.prog (W.alloc (.cells #[.string l, .string r, .int .i64 b, .slice B j d] 28)) = .ok (.slice A' m c') W' ∧ OwnF w0 W' (.slice A' m c') (L ++ [⟨l, r, b, wt⟩]) R' ∧ W.grownBy W' v.ownBlock ∧ ∀ g, v.ownBlock = some g → ∃ cs, Blk W g 28 cs := by
  subst hj
  obtain ⟨A', c', W', h1, h2, h3⟩ := h.push ⟨l, r, b, wt, B, d⟩ hx hnew ⟨l, r, b, wt⟩ rfl m hm hL
  exact ⟨A', c', W', _, h1, h2, h3, fun g e => (OwnR.typed h.row e).2⟩
/-- what each tells -/
def EachTold (w0 : World) (L : List Fl) (cap : World → Prop) (e : Ending) (w' : World) : Prop :=
  ∃ (A : Option Addr) (n c : Nat) (R : List Fw), e = .returned (.slice A n c) ∧ L.length = n ∧ OwnF w0 w' (.slice A n c) L R ∧ cap w'

set_option maxHeartbeats 8000000 in
set_option maxRecDepth 100000 in
theorem eachb_any (A : Option Addr) (L : List Fl) (n c : Nat) (w0 w : World) (gl gr gw gf : Nat) (l r : ByteArray) (who : Int) (ha : FillsAt w0 A L) (hn : L.length = n) (hf : FitF L) (h0 : Below w0.heap.size w0 w) (hc : CapB w gl gr gw gf l r who true) (hgf : w0.heap.size ≤ gf) :
    Calls Try.prog 26 #[.slice A n c, .func (.func 27) #[] #[.pointer (some ⟨gl, 0, none⟩), .pointer (some ⟨gr, 0, none⟩), .pointer (some ⟨gw, 0, none⟩), .pointer (some ⟨gf, 0, none⟩)]] w
      (EachTold w0 (joined L l r who) fun w' => CapB w' gl gr gw gf l r who (!hasT L l r)) := by
  subst hn
  have HA := Lib.hid ha
  have HF := Lib.hid hf
  have hl := hf.len
  obtain ⟨nn, hnn⟩ : ∃ nn, nn = L.length + 1 := ⟨_, rfl⟩
  obtain ⟨cs, hcs, hmk⟩ := make_fills nn (by omega) w
  have hmk2 : (Instr.makeSlice 22 (.int .i64 0) (.int .i64 ((L.length : Int) + 1))).run Try.prog w = .ok (.slice (some ⟨w.heap.size, 0, none⟩) 0 nn) (w.alloc (.cells cs 28)) := by
    rw [hnn] at hmk ⊢
    exact hmk
  have ho : OwnF w0 (w.alloc (.cells cs 28)) (.slice (some ⟨w.heap.size, 0, none⟩) 0 nn) [] [] :=
    ⟨OwnR.base (own_made Fw.cells 4 28 w nn (by unfold maxLen; omega) cs hcs) h0, fun x hx => (by cases hx), rfl, fun x hx => (by cases hx)⟩
  have hc1 : CapB (w.alloc (.cells cs 28)) gl gr gw gf l r who true := hc.up ((Below.refl _ _).alloc (Nat.le_refl _) _)
  obtain ⟨w1, hw1⟩ : ∃ w1, w1 = w.alloc (.cells cs 28) := ⟨_, rfl⟩
  obtain ⟨g, hg⟩ : ∃ g, g = w.heap.size := ⟨_, rfl⟩
  rw [← hw1] at ho hc1 hmk2
  rw [← hg] at ho hmk2
  have HO := Lib.hid ho
  have HC := Lib.hid hc1
  clear ha hf hnn hcs hmk ho hc1 hw1 hg hc h0
  go_enter Try.func26, Try.ntmps26
  go_wp2_with fail
  clear hmk2
  go_loopw [5, 15] (fun v i wr => ∃ (k : Nat) (Ao : Option Addr) (co : Nat) (R : List Fw), k ≤ L.length ∧ v = .slice Ao k co ∧ i = .int .i64 k ∧ Hid (OwnF w0 wr (.slice Ao k co) (joined (L.take k) l r who) R) ∧ Hid (CapB wr gl gr gw gf l r who (!hasT (L.take k) l r))) (fun _ i _ => L.length - (intOf i).toNat)
  case atStart => exact ⟨0, some ⟨g, 0, none⟩, nn, [], Nat.zero_le _, rfl, rfl, HO, HC⟩
  case round =>
    obtain ⟨k, Ao, co, R, hk, rfl, rfl, HV, HC⟩ := hrel
    obtain ⟨v3, rfl⟩ : ∃ w3, w3 = wr := ⟨_, rfl⟩
    by_cases g1 : k < L.length
    · obtain ⟨x, hx⟩ : ∃ x, L[k]? = some x := ⟨_, List.getElem?_eq_getElem g1⟩
      obtain ⟨a, B, cw, rfl, hal, p0, p1, p2, p3, hi, hcw⟩ := (HA.out.up HV.out.row.2).at_ hx
      have HX := Lib.hid hx
      have HI := Lib.hid hi
      have HXS := Lib.hid (HF.out.each x (List.mem_of_getElem? hx))
      obtain ⟨m, hm⟩ : ∃ m, m = x.wait.length := ⟨_, rfl⟩
      have HM := Lib.hid hm
      have hm1 : m ≤ 1000 := by have := HXS.out.1; omega
      rw [← hm] at p3 hcw
      clear hx hi hm
      go_upto_region 5 with (fail)
      obtain ⟨g4, v4, hg4, hv4, hb4, hbe4⟩ := box_new v3 28 #[.string x.left, .string x.right, .int .i64 x.by_, .slice B m cw]
      rw [← hv4, ← hg4]
      have HBE4 := Lib.hid hbe4
      obtain ⟨y0, y1, y2, y3⟩ := blk4 hb4
      clear p0 p1 p2 p3 hg4 hv4 hb4 hbe4
      go_wp2_with fail
      refine (own_any x.left x.right x.by_ x.wait B m cw v4 (HI.out.up HBE4.out) HM.out.symm (by omega) (by have := HXS.out.2.1; omega) (by have := HXS.out.2.2; omega)).mono ?_
      rintro e v5 ⟨A5, c5, rfl, ho5⟩
      have HO5 : Hid (OwnI v3 v5 (.slice A5 m c5) x.wait) := Lib.hid (OwnR.base ho5 HBE4.out)
      clear ho5 y0 y1 y2 y3
      go_upto_region 6 with (fail)
      obtain ⟨g6, v6, hg6, hv6, hb6, hbe6⟩ := box_new v5 28 #[.string x.left, .string x.right, .int .i64 x.by_, .slice A5 m c5]
      rw [← hv6, ← hg6]
      have HB6 := Lib.hid hb6
      have HO6 := Lib.hid (HO5.out.up hbe6)
      have HG6 : Hid (v3.heap.size ≤ g6) := Lib.hid (by rw [hg6]; exact HO5.out.2.size)
      have HC6 := Lib.hid (HC.out.up (HO6.out.2))
      clear hg6 hv6 hb6 hbe6
      go_wp2_with fail
      refine (clob_any v3 v6 g6 gl gr gw gf x.left x.right x.by_ A5 m c5 x.wait l r who _ HB6.out HO6.out HM.out.symm (by omega) HG6.out HC.out.who.lt HC6.out).mono ?_
      rintro e v7 ⟨rfl, hgr, A7, k7, c7, hmine, hcap⟩
      have hlist := HV.out.past hgr HC.out.first (by decide) (by decide) hgf
      obtain ⟨A8, c8, v8, R8, hr8, ho8, hgr8, hty8⟩ := hlist.push2 x.left x.right x.by_ _ A7 c7 hmine.wait (fun h b e => Nat.le_trans HV.out.row.2.size (hmine.new h b e)) k7 hmine.len (k + 1) (by rw [show (joined (L.take k) l r who).length = (L.take k).length from List.length_map .., List.length_take]; omega) (by omega)
      have HR8 := Lib.hid hr8
      have HO8 : Hid (OwnF w0 v8 (.slice A8 (k + 1) c8) (joined (L.take (k + 1)) l r who) R8) := Lib.hid (by
        rw [take_snoc HX.out, joined_snoc]; exact ho8)
      have HC8 : Hid (CapB v8 gl gr gw gf l r who (!hasT (L.take (k + 1)) l r)) := Lib.hid (by
        rw [take_snoc HX.out, hasT_snoc]
        have e : (!(hasT (L.take k) l r || decide ((x.left, x.right) = (l, r)))) = (if (x.left, x.right) = (l, r) then false else !hasT (L.take k) l r) := by
          by_cases h : (x.left, x.right) = (l, r) <;> simp [h]
        rw [e]
        exact hcap.grown hgr8 hty8)
      obtain ⟨y0, y1, y2, y3⟩ := blk4 hmine.box
      clear hgr hmine hcap hlist hr8 ho8 hgr8 hty8
      go_wp2_with (at_builtin; refine wpList_append_run rfl rfl (by simp [Region.wanted]) rfl rfl HR8.out ?_; clear HR8)
      go_roundw
      case rel => exact ⟨k + 1, A8, c8, R8, by omega, rfl, by go_num, HO8, HC8⟩
      case measure => simp [intOf]; omega
    · obtain rfl : k = L.length := by omega
      have HV2 : Hid (OwnF w0 v3 (.slice Ao L.length co) (joined L l r who) R) := Lib.hid (by have := HV.out; rwa [List.take_length] at this)
      have HC2 : Hid (CapB v3 gl gr gw gf l r who (!hasT L l r)) := Lib.hid (by have := HC.out; rwa [List.take_length] at this)
      clear HV HC
      go_wp2_with fail
      go_ret
      exact ⟨Ao, L.length, co, R, rfl, List.length_map .., HV2.out, HC2.out⟩

end Go.Proofs.Ytllkegonhghkcaa
