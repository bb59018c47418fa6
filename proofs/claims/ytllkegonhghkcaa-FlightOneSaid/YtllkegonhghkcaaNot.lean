/-
  Package flight: what look notes of a number, by its closure.
-/
import Derived.Test.YtllkegonhghkcaaMap
namespace Go.Proofs.Ytllkegonhghkcaa
open Go.RowKit Go.Maps P15

/-- what the closure of look has caught: whether all is right so far, and what each number is about -/
structure NoteIn (W : World) (gm ga g1 : Nat) (mb : Bool) (S : List (Int × Int)) (n : Nat) (D : DataW Unit) : Prop where
  may : Blk W gm 4 #[.bool mb]
  box : Blk W ga 52 #[.map (some g1)]
  own : W.ownsMap Try.prog 3 (plainElem Try.prog 3) g1 n D
  known : KnownA S D
theorem NoteIn.up {W W' : World} {gm ga g1 : Nat} {mb : Bool} {S : List (Int × Int)} {n : Nat} {D : DataW Unit} (h : NoteIn W gm ga g1 mb S n D) (hb : Below W.heap.size W W') : NoteIn W' gm ga g1 mb S n D :=
  ⟨Blk.below h.may hb h.may.lt, Blk.below h.box hb h.box.lt, map_only (X := fun _ => False) h.own (Only.of_below hb) id, h.known⟩
def NoteTold (W : World) (gm ga g1 : Nat) (mb : Bool) (S : List (Int × Int)) (n : Nat) (e : Ending) (W' : World) : Prop :=
  e = .returned (.tuple #[]) ∧ ∃ D', NoteIn W' gm ga g1 mb S n D' ∧ Only (fun i => i = gm ∨ i = g1) W W'

set_option maxHeartbeats 2000000 in
theorem note_any (W : World) (gm ga g1 : Nat) (mb : Bool) (S : List (Int × Int)) (n : Nat) (D : DataW Unit) (who what : Int) (mb' : Bool) (h : NoteIn W gm ga g1 mb S n D) (hw : I64 who) (ht : I64 what) (hn : n ≤ 2000000) (hm : mb' = (mb && decide (abt S who = 0))) :
    Calls Try.prog 33 #[.int .i64 who, .int .i64 what, .pointer (some ⟨gm, 0, none⟩), .pointer (some ⟨ga, 0, none⟩)] W (NoteTold W gm ga g1 mb' (S ++ [(who, what)]) (n + 1)) := by
  have HH := Lib.hid h
  have HKEY := Lib.hid (key_int hw)
  have HW := Lib.hid hw
  have HT := Lib.hid ht
  have HM := Lib.hid hm
  have y0 := Blk.cell h.may 0
  have y1 := Blk.frozen h.may 0
  have y2 := Blk.cell h.box 0
  simp only [List.getElem?_toArray, List.getElem?_cons_zero] at y0 y2
  have hlk := lookup_a h.own h.known who hw
  obtain ⟨c, hc⟩ : ∃ c, abt S who = c := ⟨_, rfl⟩
  rw [hc] at hlk
  have HC := Lib.hid hc
  have hs := Blk.set_ h.may 0 (.bool mb')
  have n1 : gm ≠ ga := blk_ne h.may h.box (by decide)
  have hO : Only (fun i => i = gm ∨ i = g1) W (W.setCell ⟨gm, 0, none⟩ (.bool mb')) := Only.set W _ _ (.inl rfl)
  have hbx := Blk.far h.box n1.symm (p := ⟨gm, 0, none⟩) (.bool mb')
  have hmp := map_only (X := fun i => i = gm) h.own (Only.set W ⟨gm, 0, none⟩ (.bool mb') rfl) (map_ne h.own h.may)
  have z2 := Blk.cell hbx 0
  simp only [List.getElem?_toArray, List.getElem?_cons_zero] at z2
  have HS := Lib.hid hs
  have HO := Lib.hid hO
  have HBX := Lib.hid hbx
  have HMP := Lib.hid hmp
  have HEND : Hid (∀ w1, w1.ownsMap Try.prog 3 (plainElem Try.prog 3) g1 (n + 1) (D.put (.int .i64 who) (.lit (.int .i64 what))) → (W.setCell ⟨gm, 0, none⟩ (.bool mb')).grownBy w1 (some g1) → NoteTold W gm ga g1 mb' (S ++ [(who, what)]) (n + 1) (.returned (.tuple #[])) w1) := Lib.hid fun w1 h1 h2 => by
    have e1 : gm ≠ g1 := (map_ne HH.out.own HH.out.may).symm
    have e2 : ga ≠ g1 := (map_ne HH.out.own HH.out.box).symm
    refine ⟨rfl, _, ⟨Blk.grown HS.out h2 (fun e => e1 (Option.some.inj e)), Blk.grown HBX.out h2 (fun e => e2 (Option.some.inj e)), h1, HH.out.known.put HH.out.own.isMap who what HW.out⟩, HO.out.trans (Only.of_grown h2 fun g e => .inr (Option.some.inj e).symm)⟩
  clear h hw ht hm hs hO hbx hmp hc n1
  cases mb with
  | false =>
    have hf : mb' = false := by rw [HM.out]; rfl
    subst hf
    clear hlk
    go_enter Try.func33, Try.ntmps33
    go_wp2_with (at_mapUpdate; refine wpList_mapUpdate_own _ rfl _ _ _ 52 rfl 3 3 law_int Try.underlying52 _ g1 n D rfl HMP.out (by unfold maxLen; omega) _ _ _ rfl rfl HKEY.out _ [] (plainElem_int Try.underlying3 (i64_wf HT.out)) ?_; intro w1 hown1 hgrow1)
    refine bodyPost_end (results_none rfl _ _ _) rfl ?_
    exact HEND.out w1 hown1 hgrow1
  | true =>
    cases t1 : (c == 0) with
    | true =>
      have hf : mb' = true := by rw [HM.out, HC.out]; simpa using t1
      subst hf
      go_enter Try.func33, Try.ntmps33
      go_wp2_with (at_mapUpdate; refine wpList_mapUpdate_own _ rfl _ _ _ 52 rfl 3 3 law_int Try.underlying52 _ g1 n D rfl HMP.out (by unfold maxLen; omega) _ _ _ rfl rfl HKEY.out _ [] (plainElem_int Try.underlying3 (i64_wf HT.out)) ?_; intro w1 hown1 hgrow1)
      refine bodyPost_end (results_none rfl _ _ _) rfl ?_
      exact HEND.out w1 hown1 hgrow1
    | false =>
      have hf : mb' = false := by rw [HM.out, HC.out]; simpa using t1
      subst hf
      go_enter Try.func33, Try.ntmps33
      go_wp2_with (at_mapUpdate; refine wpList_mapUpdate_own _ rfl _ _ _ 52 rfl 3 3 law_int Try.underlying52 _ g1 n D rfl HMP.out (by unfold maxLen; omega) _ _ _ rfl rfl HKEY.out _ [] (plainElem_int Try.underlying3 (i64_wf HT.out)) ?_; intro w1 hown1 hgrow1)
      refine bodyPost_end (results_none rfl _ _ _) rfl ?_
      exact HEND.out w1 hown1 hgrow1

end Go.Proofs.Ytllkegonhghkcaa
