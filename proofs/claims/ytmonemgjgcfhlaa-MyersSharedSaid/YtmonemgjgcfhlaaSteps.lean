/-
  steps: the kinds of a script's steps, one by one, as a new list.
-/
import Derived.Test.YtmonemgjgcfhlaaEdits
import Derived.Test.YtmonemgjgcfhlaaSameE
namespace Go.Proofs.Ytmonemgjgcfhlaa
open Go.RowKit

/-- the kinds of a script's steps -/
def opsL (es : List Edt) : List Int := es.flatMap fun e => List.replicate e.n e.op
theorem opsL_append (es fs : List Edt) : opsL (es ++ fs) = opsL es ++ opsL fs := by simp [opsL]
theorem opsL_one (e : Edt) : opsL [e] = List.replicate e.n e.op := by simp [opsL]
theorem opsL_step (es : List Edt) (op : Int) (ls : List ByteArray) : opsL (stepE es op ls) = opsL es ++ [op] := by
  rcases List.eq_nil_or_concat es with rfl | ⟨es0, e, rfl⟩
  · rfl
  · rw [List.concat_eq_append]
    by_cases h : e.op = op
    · subst h
      rw [stepE_same, opsL_append, opsL_append, opsL_one, opsL_one, List.replicate_succ', List.append_assoc]
    · rw [stepE_new _ _ _ (by simp [h]), opsL_append, opsL_one]
      rfl
theorem opsL_grp : ∀ (ss : List (Pm.Stp ByteArray)) (es : List Edt), opsL (grp es ss) = opsL es ++ ss.map (·.1)
  | [], es => by simp [grp]
  | s :: ss, es => by rw [grp_cons, opsL_grp ss, opsL_step, List.map_cons, List.append_assoc]; rfl
theorem opsL_way (a b : List ByteArray) : opsL (grp [] (Pm.way a b)) = (Pm.way a b).map (·.1) := by rw [opsL_grp]; rfl
theorem opsL_len (a b : List ByteArray) : (opsL (grp [] (Pm.way a b))).length ≤ a.length + b.length := by
  rw [opsL_way, List.length_map]; exact Pm.way_len _ a b (Nat.le_refl _)
theorem n_le {es : List Edt} {e : Edt} (h : e ∈ es) : e.n ≤ (opsL es).length := by
  obtain ⟨s, t, rfl⟩ := List.append_of_mem h
  have : opsL (s ++ e :: t) = opsL s ++ (List.replicate e.n e.op ++ opsL t) := by simp [opsL]
  rw [this]; simp; omega
theorem opsL_take {es : List Edt} {k : Nat} {e : Edt} (h : es[k]? = some e) : opsL (es.take (k + 1)) = opsL (es.take k) ++ List.replicate e.n e.op := by
  obtain ⟨hk, rfl⟩ := List.getElem?_eq_some_iff.1 h
  rw [List.take_succ_eq_append_getElem hk, opsL_append, opsL_one]
theorem opsL_take_le (es : List Edt) (k : Nat) : (opsL (es.take k)).length ≤ (opsL es).length := by
  have h : opsL es = opsL (es.take k) ++ opsL (es.drop k) := by rw [← opsL_append, List.take_append_drop]
  rw [h, List.length_append]; omega

/-- a list of numbers that the call is making -/
def StAt (w wr : World) (v : Value) (X : List Int) : Prop := wr.ownsRow w.heap.size 3 1 v X.length (X.map (.int .i64)) ∧ Below w.heap.size w wr
theorem StAt.nil (w : World) : StAt w w (.slice none 0 0) [] := ⟨World.ownsRow_nil _ _ _ _, Below.refl _ _⟩
theorem StAt.push {w wr : World} {v : Value} {X : List Int} (h : StAt w wr v X) (z : Int) (hX : X.length ≤ 1073741) :
    ∃ A' c' w', (Builtin.append_ #[23, 23] 23 #[v, .slice (some ⟨wr.heap.size, 0, none⟩) 1 1]).run Try.prog (wr.alloc (.cells #[.int .i64 z] 3)) = .ok (.slice A' (X.length + 1) c') w' ∧ StAt w w' (.slice A' (X.length + 1) c') (X ++ [z]) := by
  have hbs := h.2.size
  have hown1 : (wr.alloc (.cells #[.int .i64 z] 3)).ownsRow w.heap.size 3 1 v X.length (X.map (.int .i64)) := h.1.alloc _
  obtain ⟨A6, c6, w6, hrun, hown6, hg6⟩ := run_append_ints _ w.heap.size _ _ _ hown1 ⟨wr.heap.size, 0, none⟩ 1 z ((Blk.new wr 3 #[.int .i64 z]).cell 0) (by omega) (by simp; omega)
  exact ⟨A6, c6, w6, hrun, by rw [List.length_append]; simpa using hown6, (h.2.alloc hbs _).grown hg6 (by simp; omega) (fun j hj => (hown1.lt j hj).1)⟩
theorem StAt.shape {w wr : World} {v : Value} {X : List Int} (h : StAt w wr v X) : ∃ A c, v = .slice A X.length c := by
  obtain ⟨A, c, e, _⟩ := row_shape h.1
  exact ⟨A, c, e⟩
theorem StAt.drewN {w wr : World} {v : Value} {X : List Int} (h : StAt w wr v X) (n : Nat) : StAt w (wr.drewN n) v X := ⟨h.1, below_drewN h.2 n⟩
theorem StAt.ints {w wr : World} {A : Option Addr} {n c : Nat} {X : List Int} (h : StAt w wr (.slice A n c) X) (hn : n = X.length) : Ints wr wr.heap.size A X := by
  subst hn; exact Ints.of_own h.1

set_option maxHeartbeats 2000000 in
set_option maxRecDepth 100000 in
theorem steps_any (A : Option Addr) (es : List Edt) (n c : Nat) (w : World) (ha : Eds w w.heap.size A es) (hn : es.length = n) (h1 : n ≤ 65536) (hlen : (opsL es).length ≤ 99) :
    Calls Try.prog 21 #[.slice A n c] w fun e w' => ∃ A' c', e = .returned (.slice A' (opsL es).length c') ∧ Ints w' w'.heap.size A' (opsL es) ∧ Below w.heap.size w w' := by
  subst hn
  go_enter Try.func21, Try.ntmps21
  go_wp2_with fail
  go_loopw [3, 4] (fun v i wr => ∃ k : Nat, k ≤ es.length ∧ i = .int .i64 k ∧ StAt w wr v (opsL (es.take k))) (fun _ i _ => es.length - (intOf i).toNat)
  case atStart => exact ⟨0, Nat.zero_le _, rfl, StAt.nil w⟩
  case round =>
    obtain ⟨k, hk, rfl, hT⟩ := hrel
    by_cases g1 : k < es.length
    · obtain ⟨e, he⟩ : ∃ e, es[k]? = some e := ⟨_, List.getElem?_eq_getElem g1⟩
      have HK := Lib.hid (opsL_take he)
      have hle := opsL_take_le es (k + 1)
      rw [HK.out, List.length_append, List.length_replicate] at hle
      have hen : e.n ≤ 99 := by omega
      have hel : (opsL (es.take k)).length + e.n ≤ 99 := by omega
      have HE := Lib.hid he
      clear he hle
      generalize opsL (es.take k) = P at *
      go_wp2_with fail
      go_loopw [3, 5] (fun v i wx => ∃ l : Nat, l ≤ e.n ∧ i = .int .i64 l ∧ StAt w wx v (P ++ List.replicate l e.op)) (fun _ i _ => e.n - (intOf i).toNat)
      case atStart => exact ⟨0, Nat.zero_le _, rfl, by simpa using hT⟩
      case round =>
        obtain ⟨l, hl, rfl, hS⟩ := hrel
        obtain ⟨a, rfl, c1, c2, _⟩ := (ha.below hS.2).at_ HE.out
        rw [← field_at a (k * 3) 1 (by decide)] at c2
        obtain ⟨X, hX⟩ : ∃ X, X = P ++ List.replicate l e.op := ⟨_, rfl⟩
        rw [← hX] at hS
        have hXl : X.length ≤ 99 := by rw [hX]; simp; omega
        obtain ⟨Av, cv, rfl⟩ := hS.shape
        have HX := Lib.hid hX
        clear hX hT
        by_cases g2 : l < e.n
        · have g3 : l < 100 := by omega
          obtain ⟨A6, c6, w6, hrun, hS6⟩ := hS.push e.op (by omega)
          have HR := Lib.hid hrun
          have HS6 := Lib.hid hS6
          clear hrun hS6
          go_wp2_with (at_builtin; refine wpList_append_run rfl rfl (by simp [Region.wanted]) rfl rfl HR.out ?_)
          go_roundw
          case rel => exact ⟨l + 1, by omega, by go_num, by rw [List.replicate_succ', ← List.append_assoc, ← HX.out]; exact HS6.out⟩
          case measure => simp [intOf]; omega
        · have : l = e.n := by omega
          subst this
          go_wp2_with fail
          go_roundw
          case rel => exact ⟨k + 1, by omega, by go_num, by rw [HK.out, ← HX.out]; exact hS⟩
          case measure => simp [intOf]; omega
    · have hkz : es.take k = es := List.take_of_length_le (by omega)
      rw [hkz] at hT
      clear hkz
      obtain ⟨Av, cv, rfl⟩ := hT.shape
      go_wp2_with fail
      go_ret
      exact ⟨Av, cv, rfl, hT.ints rfl, hT.2⟩

end Go.Proofs.Ytmonemgjgcfhlaa
