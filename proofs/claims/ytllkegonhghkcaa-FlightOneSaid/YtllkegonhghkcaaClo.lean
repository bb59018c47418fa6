/-
  Package flight: what Begin, Done and Leave do to a fill, as closures: each by a contract of its own.
-/
import Derived.Test.YtllkegonhghkcaaWou
import Derived.Deep.RegionLaw
namespace Go.Proofs.Ytllkegonhghkcaa
open Go.RowKit P15

theorem grown_set' {w0 w : World} {c : Option Nat} (h : w0.grownBy w c) (p : Addr) (u : Value) (hp : some p.block = c ∨ w0.heap.size ≤ p.block) : w0.grownBy (w.setCell p u) c :=
  ⟨h.os, h.tape, h.output, by simpa using h.size, fun i hi hne => (Below.heap_setCell w p u i (by
    rintro rfl
    rcases hp with hp | hp
    · exact hne hp
    · omega)).trans (h.block i hi hne)⟩
/-- what the closure of Begin has caught -/
structure CapB (W : World) (gl gr gw gf : Nat) (l r : ByteArray) (who : Int) (fb : Bool) : Prop where
  left : Blk W gl 9 #[.string l]
  right : Blk W gr 9 #[.string r]
  who : Blk W gw 3 #[.int .i64 who]
  first : Blk W gf 4 #[.bool fb]
  ne : gl ≠ gf ∧ gr ≠ gf ∧ gw ≠ gf
theorem CapB.up {W W' : World} {gl gr gw gf : Nat} {l r : ByteArray} {who : Int} {fb : Bool} (h : CapB W gl gr gw gf l r who fb) (hb : Below W.heap.size W W') : CapB W' gl gr gw gf l r who fb :=
  ⟨Blk.below h.left hb h.left.lt, Blk.below h.right hb h.right.lt, Blk.below h.who hb h.who.lt, Blk.below h.first hb h.first.lt, h.ne⟩
/-- a fill in its box, and who waits for it -/
structure Mine (n0 : Nat) (W : World) (m : Nat) (l r : ByteArray) (b : Int) (A : Option Addr) (k c : Nat) (ws : List Int) : Prop where
  box : Blk W m 28 #[.string l, .string r, .int .i64 b, .slice A k c]
  wait : IntsT W ⟨l, r, b, ws, A, c⟩
  len : ws.length = k
  new : ws ≠ [] → ∀ b, A = some b → n0 ≤ b.block
/-- what the closure of Begin tells -/
def CloB (w0 : World) (m gl gr gw gf : Nat) (xl xr : ByteArray) (xb : Int) (ws : List Int) (l r : ByteArray) (who : Int) (fb : Bool) (e : Ending) (W' : World) : Prop :=
  e = .returned (.bool true) ∧ w0.grownBy W' (some gf) ∧ ∃ (A : Option Addr) (k c : Nat), Mine w0.heap.size W' m xl xr xb A k c (if (xl, xr) = (l, r) then ws ++ [who] else ws) ∧ CapB W' gl gr gw gf l r who (if (xl, xr) = (l, r) then false else fb)

set_option maxHeartbeats 4000000 in
theorem clob_any (w0 W : World) (m gl gr gw gf : Nat) (xl xr : ByteArray) (xb : Int) (A : Option Addr) (k c : Nat) (ws : List Int) (l r : ByteArray) (who : Int) (fb : Bool) (hbox : Blk W m 28 #[.string xl, .string xr, .int .i64 xb, .slice A k c]) (ho : OwnI w0 W (.slice A k c) ws) (hk : ws.length = k) (hk2 : k ≤ 2000)
    (hm : w0.heap.size ≤ m) (hgw : gw < w0.heap.size) (hc : CapB W gl gr gw gf l r who fb) :
    Calls Try.prog 27 #[.pointer (some ⟨m, 0, none⟩), .pointer (some ⟨gl, 0, none⟩), .pointer (some ⟨gr, 0, none⟩), .pointer (some ⟨gw, 0, none⟩), .pointer (some ⟨gf, 0, none⟩)] W (CloB w0 m gl gr gw gf xl xr xb ws l r who fb) := by
  have HBOX := Lib.hid hbox
  have HO := Lib.hid ho
  have HK := Lib.hid hk
  have HC := Lib.hid hc
  obtain ⟨y0, y1, y2, y3⟩ := blk4 hbox
  have u0 := Blk.cell hc.left 0
  have u1 := Blk.cell hc.right 0
  have u2 := Blk.cell hc.who 0
  have u3 := Blk.frozen hc.first 0
  have u4 := Blk.cell hc.first 0
  simp only [List.getElem?_toArray, List.getElem?_cons_zero] at u0 u1 u2 u4
  clear hbox ho hk hc
  cases t1 : (xl.toList == l.toList) with
  | false =>
    have HN : Hid (¬ (xl, xr) = (l, r)) := Lib.hid fun e => text_ne t1 (congrArg Prod.fst e)
    go_enter Try.func27, Try.ntmps27
    go_wp2_with fail
    go_quiet (fail)
    go_wp2_with fail
    go_ret
    have hd : Below W.heap.size W (W.drewN nq) := below_drewN (Below.refl _ _) _
    refine ⟨rfl, grown_of_below (below_drewN HO.out.2 _) _, A, k, c, ?_⟩
    rw [if_neg HN.out, if_neg HN.out]
    exact ⟨⟨Blk.below HBOX.out hd HBOX.out.lt, IntsT.of_own (HO.out.up hd) rfl rfl, HK.out, own_new HO.out⟩, HC.out.up hd⟩
  | true =>
    cases t2 : (xr.toList == r.toList) with
    | false =>
      have HN : Hid (¬ (xl, xr) = (l, r)) := Lib.hid fun e => text_ne t2 (congrArg Prod.snd e)
      go_enter Try.func27, Try.ntmps27
      go_wp2_with fail
      go_quiet (fail)
      go_wp2_with fail
      go_ret
      have hd : Below W.heap.size W (W.drewN nq) := below_drewN (Below.refl _ _) _
      refine ⟨rfl, grown_of_below (below_drewN HO.out.2 _) _, A, k, c, ?_⟩
      rw [if_neg HN.out, if_neg HN.out]
      exact ⟨⟨Blk.below HBOX.out hd HBOX.out.lt, IntsT.of_own (HO.out.up hd) rfl rfl, HK.out, own_new HO.out⟩, HC.out.up hd⟩
    | true =>
      have HY : Hid ((xl, xr) = (l, r)) := Lib.hid (by rw [text_eq t1, text_eq t2])
      go_enter Try.func27, Try.ntmps27
      go_wp2_with fail
      go_quiet (fail)
      go_wp2_with fail
      have hd : Below W.heap.size W (W.drewN nq) := below_drewN (Below.refl _ _) _
      obtain ⟨w1, hw1⟩ : ∃ w1, w1 = W.drewN nq := ⟨_, rfl⟩
      rw [← hw1] at hd ⊢
      have ho1 := HO.out.up hd
      have hb1 := Blk.below HBOX.out hd HBOX.out.lt
      have HC1 := Lib.hid (HC.out.up hd)
      clear hw1 y0 y1 y2 y3 u0 u1 u2 u3 u4
      obtain ⟨y0, y1, y2, y3⟩ := blk4 hb1
      have u2 := Blk.cell HC1.out.who 0
      simp only [List.getElem?_toArray, List.getElem?_cons_zero] at u2
      obtain ⟨A6, c6, w6, hr6, ho6, hgr6⟩ := int_push (ho1.up ((Below.refl _ _).drew)) who (k + 1) (by rw [HK.out]) (by omega)
      have hr6 : (Builtin.append_ #[26, 26] 26 #[.slice A k c, .slice (some ⟨w1.heap.size, 0, none⟩) 1 1]).run Try.prog (w1.alloc (.cells #[.int .i64 who] 3)).drew = .ok (.slice A6 (k + 1) c6) w6 := hr6
      have hal : Below w1.heap.size w1 (w1.alloc (.cells #[.int .i64 who] 3)) := (Below.refl _ _).alloc (Nat.le_refl _) _
      have y3a : (w1.alloc (.cells #[.int .i64 who] 3)).cell? ⟨m, 3, none⟩ = some (.slice A k c) := Blk.cell (Blk.below hb1 hal hb1.lt) 3
      have hgr : w1.grownBy w6 (Value.slice A k c).ownBlock := World.grownBy.trans (grown_of_below ((Below.refl _ _).drew) _) hgr6
      have HR6 := Lib.hid hr6
      have HO6 := Lib.hid ho6
      have hne : ∀ {g : Nat} {t : TypeId} {cs : Array Value}, Blk w1 g t cs → 3 ≠ t → some g ≠ (Value.slice A k c).ownBlock := fun hb ht e => by
        obtain ⟨_, ds, hd⟩ := OwnR.typed ho1 e.symm
        exact blk_ne hd hb ht rfl
      have hb6 := Blk.grown hb1 hgr (hne hb1 (by decide))
      have hf6 := Blk.grown HC1.out.first hgr (hne HC1.out.first (by decide))
      have hl6 := Blk.grown HC1.out.left hgr (hne HC1.out.left (by decide))
      have hr6' := Blk.grown HC1.out.right hgr (hne HC1.out.right (by decide))
      have hw6 := Blk.grown HC1.out.who hgr (fun e => by have := (OwnR.typed ho1 e.symm).1; omega)
      have HB6 := Lib.hid hb6
      have HF6 := Lib.hid hf6
      have HL6 := Lib.hid hl6
      have HRR6 := Lib.hid hr6'
      have HWH6 := Lib.hid hw6
      have hmf : m ≠ gf := blk_ne hb1 HC1.out.first (by decide)
      have z3 := Blk.cell hb6 3
      have z4 := Blk.frozen hb6 3
      have v0 := Blk.cell hf6 0
      have v1 := Blk.frozen hf6 0
      simp only [List.getElem?_toArray, List.getElem?_cons_zero, List.getElem?_cons_succ] at z3 v0
      have HEND : Hid (CloB w0 m gl gr gw gf xl xr xb ws l r who fb (.returned (.bool true)) ((w6.setCell ⟨m, 3, none⟩ (.slice A6 (k + 1) c6)).setCell ⟨gf, 0, none⟩ (.bool false))) := Lib.hid (by
        have hn1 : ∀ {g : Nat} {cs : Array Value}, Blk w6 g 3 cs → Blk ((w6.setCell ⟨m, 3, none⟩ (.slice A6 (k + 1) c6)).setCell ⟨gf, 0, none⟩ (.bool false)) g 3 cs := fun hg =>
          (Blk.far hg (blk_ne hg HB6.out (by decide)) _).far (blk_ne hg HF6.out (by decide)) _
        refine ⟨rfl, grown_set' (grown_set' (grown_of_below HO6.out.2 _) _ _ (.inr hm)) _ _ (.inl rfl), A6, k + 1, c6, ?_⟩
        rw [if_pos HY.out, if_pos HY.out]
        refine ⟨⟨(Blk.set_ HB6.out 3 _).far hmf _, (IntsT.of_own (x := ⟨xl, xr, xb, ws ++ [who], A6, c6⟩) HO6.out rfl rfl).kept (fun _ _ hg => hn1 hg), by rw [List.length_append, HK.out]; rfl, own_new HO6.out⟩, ?_⟩
        exact ⟨(Blk.far HL6.out (blk_ne HL6.out HB6.out (by decide)) _).far (blk_ne HL6.out HF6.out (by decide)) _, (Blk.far HRR6.out (blk_ne HRR6.out HB6.out (by decide)) _).far (blk_ne HRR6.out HF6.out (by decide)) _, hn1 HWH6.out, (Blk.far HF6.out hmf.symm _).set_ 0 _, HC1.out.ne⟩)
      clear hd hal ho1 hb1 hr6 ho6 hgr6 hgr hne hb6 hf6 hl6 hr6' hw6
      go_region_law ((refine step_append_run2 HR6.out rfl rfl rfl ?_ ?_ ?_; (focus (first | (simp [Act.eval]; done) | (simp [Act.eval, Act.put]; done))); (focus (first | (simp [Act.eval]; done) | (simp [Act.eval, Act.put]; done)))))
      all_goals
        go_simp
        go_wp2_with fail
        go_ret
        exact HEND.out

end Go.Proofs.Ytllkegonhghkcaa
