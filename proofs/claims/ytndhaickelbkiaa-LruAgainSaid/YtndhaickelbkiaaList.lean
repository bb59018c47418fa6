/-
  collatorlaw13.List: of raw numbers, slots that are right, at most nine. Nothing that was there is changed.
-/
import Derived.Test.YtndhaickelbkiaaLawA
namespace Go.Proofs.Ytndhaickelbkiaa
open Go.RowKit

def icells (z : Int) : List Value := [.int .i64 z]
theorem i_len : ∀ x : Int, (icells x).length = 1 := fun _ => rfl
abbrev IntsAt (w : World) (A : Option Addr) (zs : List Int) : Prop := RowAt icells 1 w A zs
theorem ints_cell {w : World} {A : Option Addr} {zs : List Int} (h : IntsAt w A zs) {k : Nat} {z : Int} (hk : zs[k]? = some z) : ∃ a, A = some a ∧ a.block < w.heap.size ∧ w.cell? (a.add k) = some (.int .i64 z) := by
  obtain ⟨a, e, hb, hc⟩ := h.at_ hk
  have := hc 0 _ rfl
  rw [Nat.mul_one, Nat.add_zero] at this
  exact ⟨a, e, hb, this⟩
def InRange (zs : List Int) : Prop := ∀ z ∈ zs, -9223372036854775808 ≤ z ∧ z ≤ 9223372036854775807
/-- texts that are written out -/
theorem op_strs3 (W : World) (a b c : ByteArray) :
    ∃ g W1, (∀ (o : Oper) (x : Act), o.op = Op.buildSlice 47 3 #[(0, .const (.string a)), (1, .const (.string b)), (2, .const (.string c))] → (execOp x.eval o).run Try.prog W = .ok (.value (.slice (some ⟨g, 0, none⟩) 3 3)) W1) ∧
      Blk W1 g 9 #[.string a, .string b, .string c] ∧ Below W.heap.size W W1 := by
  refine ⟨W.heap.size, W.alloc (.cells #[.string a, .string b, .string c] 9), fun o x ho => ?_, Blk.new _ _ _, (Below.refl _ _).alloc (Nat.le_refl _) _⟩
  simp only [execOp, ho]
  go_simp
theorem op_strs4 (W : World) (a b c d : ByteArray) :
    ∃ g W1, (∀ (o : Oper) (x : Act), o.op = Op.buildSlice 47 4 #[(0, .const (.string a)), (1, .const (.string b)), (2, .const (.string c)), (3, .const (.string d))] → (execOp x.eval o).run Try.prog W = .ok (.value (.slice (some ⟨g, 0, none⟩) 4 4)) W1) ∧
      Blk W1 g 9 #[.string a, .string b, .string c, .string d] ∧ Below W.heap.size W W1 := by
  refine ⟨W.heap.size, W.alloc (.cells #[.string a, .string b, .string c, .string d] 9), fun o x ho => ?_, Blk.new _ _ _, (Below.refl _ _).alloc (Nat.le_refl _) _⟩
  simp only [execOp, ho]
  go_simp
theorem op_extract {v : Value} {vs : Array Value} {o : Oper} {a : Act} {x : Operand} {i : Nat} {W : World} (ho : o.op = Op.extract x i) (hx : a.eval x = .tuple vs) (hv : vs[i]? = some v) : (execOp a.eval o).run Try.prog W = .ok (.value v) W := by
  simp only [execOp, ho, hx]
  simp [Instr.extract, hv]
theorem text_at {W : World} {g m : Nat} {cs : Array Value} {v : ByteArray} (hb : Blk W g 9 cs) (hv : cs[m]? = some (.string v)) : W.cell? ⟨g, m, none⟩ = some (.string v) := (hb.cell m).trans hv

theorem op_rem (k d : Nat) (hd : 0 < d) (hk : k ≤ 9223372036854775807) {o : Oper} {a : Act} {x : Operand} {W : World} (ho : o.op = Op.binOp BinOp.rem 3 x (.const (.int .i64 (d : Int))) 3) (hx : a.eval x = .int .i64 (k : Int)) :
    (execOp a.eval o).run Try.prog W = .ok (.value (.int .i64 ((k % d : Nat) : Int))) W := by
  have h0 : (((d : Int) == 0) : Bool) = false := by rw [beq_eq_false_iff_ne]; omega
  have h1 : ¬ (d : Int) = 0 := by omega
  have h2 : (k : Int).tmod (d : Int) = ((k % d : Nat) : Int) := by rw [Int.tmod_eq_emod_of_nonneg (by omega)]; simp
  have h3 : IntKind.i64.wrap ((k % d : Nat) : Int) = ((k % d : Nat) : Int) := IntWalk.i64_in _ (by have := Nat.mod_le k d; omega)
  simp only [execOp, ho, hx]
  go_simp
  omega

/-- one of three texts -/
def v3 (m : Nat) : ByteArray := if m = 0 then ⟨#[]⟩ else if m = 1 then ⟨#[97]⟩ else ⟨#[98]⟩
theorem v3_at (m : Nat) (h : m < 3) : (#[.string ⟨#[]⟩, .string ⟨#[97]⟩, .string ⟨#[98]⟩] : Array Value)[m]? = some (.string (v3 m)) := by
  rcases (show m = 0 ∨ m = 1 ∨ m = 2 by omega) with rfl | rfl | rfl <;> rfl
theorem v3_size (m : Nat) : (v3 m).size ≤ 140737488355328 := by
  unfold v3
  split
  · exact Nat.zero_le _
  · split
    · show 1 ≤ _; omega
    · show 1 ≤ _; omega
/-- what a Put of a list that is right makes is right -/
theorem putM_right {L : List Sl} {room : Int} {s : Sl} (h : rightB L = true) : putM L room s = ((allS L s).take room.toNat, (allS L s).drop room.toNat, 0) := by unfold putM; rw [if_pos h]
theorem right_put {L : List Sl} (h : rightB L = true) (s : Sl) (n : Nat) : rightB ((allS L s).take n) = true := rightB_iff.2 (((rightB_iff.1 h).all s).take n)
/-- slots that are right, at most nine -/
def ListTold (w : World) (e : Ending) (w' : World) : Prop := ∃ (A : Option Addr) (L : List Sl) (c : Nat), e = .returned (.slice A L.length c) ∧ SlotsAt w' A L ∧ rightB L = true ∧ L.length ≤ 9 ∧ FitS L ∧ Below w.heap.size w w'
/-- one more has been put -/
def PutDone (w : World) (N : List Sl) (s7 s9 : Value) (wx : World) : Prop := ∃ (A : Option Addr) (n c : Nat), s7 = .slice A n c ∧ N.length = n ∧ SlotsAt wx A N ∧ s9 = .int .i64 0 ∧ Below w.heap.size w wx

set_option maxHeartbeats 8000000 in
set_option maxRecDepth 100000 in
theorem list_any (A : Option Addr) (zs : List Int) (n c : Nat) (w : World) (ha : IntsAt w A zs) (hn : zs.length = n) (h1 : n ≤ 9223372036854775807) (hz : InRange zs) :
    Calls Try.prog 10 #[.slice A n c, .int .i64 9] w (ListTold w) := by
  subst hn
  have HA := Lib.hid ha
  have HI := Lib.hid hz
  clear ha hz
  go_enter Try.func10, Try.ntmps10
  go_wp2_with fail
  go_loopw [5, 6] (fun v i wr => ∃ (k : Nat) (A5 : Option Addr) (L : List Sl) (c5 : Nat), k ≤ 30 ∧ k ≤ zs.length ∧ i = .int .i64 k ∧ v = .slice A5 L.length c5 ∧ L.length ≤ 9 ∧ Hid (SlotsAt wr A5 L ∧ rightB L = true ∧ FitS L ∧ Below w.heap.size w wr)) (fun _ i _ => 30 - (intOf i).toNat)
  case atStart => exact ⟨0, none, [], 0, by omega, Nat.zero_le _, rfl, rfl, by simp, Lib.hid ⟨RowAt.nil, by rfl, FitS.nil, Below.refl _ _⟩⟩
  case round =>
    obtain ⟨k, A5, L, c5, hk, hkz, rfl, rfl, hL9, HL0⟩ := hrel
    by_cases g1 : k < zs.length
    · by_cases g2 : k < 30
      · obtain ⟨z, hzk⟩ : ∃ z, zs[k]? = some z := ⟨_, List.getElem?_eq_getElem g1⟩
        obtain ⟨hz1, hz2⟩ := HI.out z (List.mem_of_getElem? hzk)
        have HZ := Lib.hid (HA.out.up HL0.out.2.2.2)
        have HZK := Lib.hid hzk
        obtain ⟨a, rfl, _, y0⟩ := ints_cell HZ.out hzk
        have HL := Lib.hid HL0.out.1
        obtain ⟨m, hm⟩ : ∃ m, k % 3 = m := ⟨_, rfl⟩
        have HM := Lib.hid hm
        have hk3 : m < 3 := by rw [← hm]; exact Nat.mod_lt _ (by omega)
        have hk3a : (0 : Int) ≤ (m : Int) := by omega
        have hk3b : (m : Int) < 3 := by omega
        obtain ⟨x, hx⟩ : ∃ x, x = slotOf z (v3 m) := ⟨_, rfl⟩
        have HS := Lib.hid hx
        obtain ⟨N, hN⟩ : ∃ N, N = (allS L x).take 9 := ⟨_, rfl⟩
        obtain ⟨O, hO⟩ : ∃ O, O = (allS L x).drop 9 := ⟨_, rfl⟩
        have HP : Hid (putM L 9 x = (N, O, 0)) := Lib.hid (by rw [putM_right HL0.out.2.1, hN, hO]; rfl)
        have HN : Hid (rightB N = true ∧ FitS N) := Lib.hid (by rw [hN]; exact ⟨right_put HL0.out.2.1 x 9, (HL0.out.2.2.1.all (by rw [hx]; exact fit_slotOf _ _ (v3_size _))).take 9⟩)
        have hN9 : N.length ≤ 9 := by rw [hN, List.length_take]; omega
        clear hzk hx hN hO hm
        go_wp2_with fail
        go_cut [7, 9] (fun s7 s9 wx => PutDone wr N s7 s9 wx)
        case first =>
          refine wp_region_noPanic ?_
          refine wp_region_held_drew (S := fun W => Below wr.heap.size wr W) (by kernel_rfl) ((Below.refl wr.heap.size wr).drew) (fun hS0 => ?_)
          change wpAnyH _ _ _ _ _ 20 #[false, false, false, false, false, false, false, false, false, false, false, false, false, false, false, false, false, false, false, false] _ (World.drew _)
          refine wpAnyH_take (i := 0) (v := .slice A5 L.length c5) rfl (by kernel_rfl) (by kernel_rfl) (by kernel_rfl) (fun _ _ _ h => h) (Or.inl ⟨by rfl, fun w' hS' => by exact op_move rfl rfl⟩) hS0 ?_
          change wpAnyH _ _ _ _ _ _ _ (Act.put _ (some 21) (.slice A5 L.length c5)) _
          simp only [Act.put, List.setIfInBounds_toArray, List.set_cons_zero, List.set_cons_succ]
          refine wpAnyH_take (i := 1) (v := .int .i64 9) rfl (by kernel_rfl) (by kernel_rfl) (by kernel_rfl) (fun _ _ _ h => h) (Or.inl ⟨by rfl, fun w' hS' => by exact op_move rfl rfl⟩) hS0 ?_
          change wpAnyH _ _ _ _ _ _ _ (Act.put _ (some 22) (.int .i64 9)) _
          simp only [Act.put, List.setIfInBounds_toArray, List.set_cons_zero, List.set_cons_succ]
          refine wpAnyH_take (i := 2) (v := .slice (some a) zs.length c) rfl (by kernel_rfl) (by kernel_rfl) (by kernel_rfl) (fun _ _ _ h => h) (Or.inl ⟨by rfl, fun w' hS' => by exact op_move rfl rfl⟩) hS0 ?_
          change wpAnyH _ _ _ _ _ _ _ (Act.put _ (some 23) (.slice (some a) zs.length c)) _
          simp only [Act.put, List.setIfInBounds_toArray, List.set_cons_zero, List.set_cons_succ]
          refine wpAnyH_take (i := 3) (v := .int .i64 (k : Int)) rfl (by kernel_rfl) (by kernel_rfl) (by kernel_rfl) (fun _ _ _ h => h) (Or.inl ⟨by rfl, fun w' hS' => by exact op_move rfl rfl⟩) hS0 ?_
          change wpAnyH _ _ _ _ _ _ _ (Act.put _ (some 24) (.int .i64 (k : Int))) _
          simp only [Act.put, List.setIfInBounds_toArray, List.set_cons_zero, List.set_cons_succ]
          refine wpAnyH_take (i := 4) (v := .pointer (some (a.add k))) rfl (by kernel_rfl) (by kernel_rfl) (by kernel_rfl) (fun _ _ _ h => h) (Or.inl ⟨by rfl, fun w' hS' => by go_simp⟩) hS0 ?_
          change wpAnyH _ _ _ _ _ _ _ (Act.put _ (some 25) (.pointer (some (a.add k)))) _
          simp only [Act.put, List.setIfInBounds_toArray, List.set_cons_zero, List.set_cons_succ]
          refine wpAnyH_take (i := 5) (v := .int .i64 z) rfl (by kernel_rfl) (by kernel_rfl) (by kernel_rfl) (fun _ _ _ h => h) (Or.inl ⟨by rfl, fun w' hS' => by obtain ⟨a', ea, _, y0⟩ := ints_cell (HZ.out.up hS') HZK.out; injection ea with ea; subst ea; go_simp⟩) hS0 ?_
          change wpAnyH _ _ _ _ _ _ _ (Act.put _ (some 26) (.int .i64 z)) _
          simp only [Act.put, List.setIfInBounds_toArray, List.set_cons_zero, List.set_cons_succ]
          refine wpAnyH_take (i := 7) (v := .int .i64 (k : Int)) rfl (by kernel_rfl) (by kernel_rfl) (by kernel_rfl) (fun _ _ _ h => h) (Or.inl ⟨by rfl, fun w' hS' => by exact op_move rfl rfl⟩) hS0 ?_
          change wpAnyH _ _ _ _ _ _ _ (Act.put _ (some 28) (.int .i64 (k : Int))) _
          simp only [Act.put, List.setIfInBounds_toArray, List.set_cons_zero, List.set_cons_succ]
          refine wpAnyH_take (i := 8) (v := .int .i64 (m : Int)) rfl (by kernel_rfl) (by kernel_rfl) (by kernel_rfl) (fun _ _ _ h => h) (Or.inl ⟨by rfl, fun w' hS' => by rw [← HM.out]; exact op_rem k 3 (by omega) (by omega) rfl rfl⟩) hS0 ?_
          change wpAnyH _ _ _ _ _ _ _ (Act.put _ (some 29) (.int .i64 (m : Int))) _
          simp only [Act.put, List.setIfInBounds_toArray, List.set_cons_zero, List.set_cons_succ]
          refine wpAnyH_ready (rs := [6]) (by kernel_rfl) (by simp) (AllReadyH.cons rfl (fun K hK => ?_) (AllReadyH.nil))
          · skip
            obtain ⟨g2, W1, hr5, hb6, hB7⟩ := op_strs3 wr.drew ⟨#[]⟩ ⟨#[97]⟩ ⟨#[98]⟩
            refine step_op_run (hr5 _ _ rfl) rfl ?_
            refine hK.out _ _ (hS0.trans (hB7.mono hS0.size)) (fun hS3 => ?_)
            clear hK K
            change wpAnyH _ _ _ _ _ _ _ (Act.put _ (some 27) (.slice (some ⟨g2, 0, none⟩) 3 3)) _
            simp only [Act.put, List.setIfInBounds_toArray, List.set_cons_zero, List.set_cons_succ]
            have hS4 : Below wr.heap.size wr W1 ∧ Blk W1 g2 9 #[.string ⟨#[]⟩, .string ⟨#[97]⟩, .string ⟨#[98]⟩] := ⟨hS3, hb6⟩
            refine wpAnyH_more (S' := fun W => Below wr.heap.size wr W ∧ Blk W g2 9 #[.string ⟨#[]⟩, .string ⟨#[97]⟩, .string ⟨#[98]⟩]) (fun _ h => h.1) ?_
            refine wpAnyH_take (i := 9) (v := .pointer (some ⟨g2, m, none⟩)) rfl (by kernel_rfl) (by kernel_rfl) (by kernel_rfl) (fun _ _ _ h => h) (Or.inl ⟨by rfl, fun w' hS' => by go_simp⟩) hS4 ?_
            change wpAnyH _ _ _ _ _ _ _ (Act.put _ (some 30) (.pointer (some ⟨g2, m, none⟩))) _
            simp only [Act.put, List.setIfInBounds_toArray, List.set_cons_zero, List.set_cons_succ]
            refine wpAnyH_take (i := 10) (v := .string (v3 m)) rfl (by kernel_rfl) (by kernel_rfl) (by kernel_rfl) (fun _ _ _ h => h) (Or.inl ⟨by rfl, fun w' hS' => by have y0 := text_at hS'.2 (v3_at m hk3); go_simp⟩) hS4 ?_
            change wpAnyH _ _ _ _ _ _ _ (Act.put _ (some 31) (.string (v3 m))) _
            simp only [Act.put, List.setIfInBounds_toArray, List.set_cons_zero, List.set_cons_succ]
            refine wpAnyH_ready (rs := [11]) (by kernel_rfl) (by simp) (AllReadyH.cons rfl (fun K hK => ?_) (AllReadyH.nil))
            · skip
              go_simp
              refine (slot_any z (v3 m) _ hz1 hz2).mono ?_
              rintro e W8 ⟨rfl, hB10⟩
              rw [← HS.out]
              refine hK.out _ _ ⟨hS4.1.trans (hB10.mono hS4.1.size), Blk.below hS4.2 hB10 hS4.2.lt⟩ (fun hS9 => ?_)
              clear hK K
              simp only [List.setIfInBounds_toArray, List.set_cons_zero, List.set_cons_succ]
              refine wpAnyH_ready (rs := [12]) (by kernel_rfl) (by simp) (AllReadyH.cons rfl (fun K hK => ?_) (AllReadyH.nil))
              · skip
                go_simp
                refine (rput_any A5 L L.length c5 9 x _ N O 0 HP.out (HL.out.up hS9.1) rfl (by omega) (by omega) (by omega)).mono ?_
                rintro e W11 ⟨A13, B14, n15, m16, c17, d18, rfl, hn19, hm20, hA21, hO23, hBw22⟩
                refine hK.out _ _ ⟨hS9.1.trans (hBw22.mono hS9.1.size), Blk.below hS9.2 hBw22 hS9.2.lt⟩ (fun hS12 => ?_)
                clear hK K
                simp only [List.setIfInBounds_toArray, List.set_cons_zero, List.set_cons_succ]
                refine wpAnyH_take (i := 13) (v := .tuple #[.slice A13 n15 c17, .slice B14 m16 d18, .int .i64 0]) rfl (by kernel_rfl) (by kernel_rfl) (by kernel_rfl) (fun _ _ _ h => h) (Or.inl ⟨by rfl, fun w' hS' => by exact op_move rfl rfl⟩) hS12 ?_
                change wpAnyH _ _ _ _ _ _ _ (Act.put _ (some 20) (.tuple #[.slice A13 n15 c17, .slice B14 m16 d18, .int .i64 0])) _
                simp only [Act.put, List.setIfInBounds_toArray, List.set_cons_zero, List.set_cons_succ]
                refine wpAnyH_take (i := 14) (v := .slice A13 n15 c17) rfl (by kernel_rfl) (by kernel_rfl) (by kernel_rfl) (fun _ _ _ h => h) (Or.inl ⟨by rfl, fun w' hS' => by exact op_extract rfl rfl rfl⟩) hS12 ?_
                change wpAnyH _ _ _ _ _ _ _ (Act.put _ (some 34) (.slice A13 n15 c17)) _
                simp only [Act.put, List.setIfInBounds_toArray, List.set_cons_zero, List.set_cons_succ]
                refine wpAnyH_take (i := 15) (v := .slice B14 m16 d18) rfl (by kernel_rfl) (by kernel_rfl) (by kernel_rfl) (fun _ _ _ h => h) (Or.inl ⟨by rfl, fun w' hS' => by exact op_extract rfl rfl rfl⟩) hS12 ?_
                change wpAnyH _ _ _ _ _ _ _ (Act.put _ (some 35) (.slice B14 m16 d18)) _
                simp only [Act.put, List.setIfInBounds_toArray, List.set_cons_zero, List.set_cons_succ]
                refine wpAnyH_take (i := 16) (v := .int .i64 0) rfl (by kernel_rfl) (by kernel_rfl) (by kernel_rfl) (fun _ _ _ h => h) (Or.inl ⟨by rfl, fun w' hS' => by exact op_extract rfl rfl rfl⟩) hS12 ?_
                change wpAnyH _ _ _ _ _ _ _ (Act.put _ (some 36) (.int .i64 0)) _
                simp only [Act.put, List.setIfInBounds_toArray, List.set_cons_zero, List.set_cons_succ]
                refine wpAnyH_take (i := 17) (v := .slice A13 n15 c17) rfl (by kernel_rfl) (by kernel_rfl) (by kernel_rfl) (fun _ _ _ h => h) (Or.inl ⟨by rfl, fun w' hS' => by exact op_assign rfl rfl⟩) hS12 ?_
                change wpAnyH _ _ _ _ _ _ _ (Act.put _ (some 7) (.slice A13 n15 c17)) _
                simp only [Act.put, List.setIfInBounds_toArray, List.set_cons_zero, List.set_cons_succ]
                refine wpAnyH_take (i := 18) (v := .slice B14 m16 d18) rfl (by kernel_rfl) (by kernel_rfl) (by kernel_rfl) (fun _ _ _ h => h) (Or.inl ⟨by rfl, fun w' hS' => by exact op_assign rfl rfl⟩) hS12 ?_
                change wpAnyH _ _ _ _ _ _ _ (Act.put _ (some 8) (.slice B14 m16 d18)) _
                simp only [Act.put, List.setIfInBounds_toArray, List.set_cons_zero, List.set_cons_succ]
                refine wpAnyH_take (i := 19) (v := .int .i64 0) rfl (by kernel_rfl) (by kernel_rfl) (by kernel_rfl) (fun _ _ _ h => h) (Or.inl ⟨by rfl, fun w' hS' => by exact op_assign rfl rfl⟩) hS12 ?_
                change wpAnyH _ _ _ _ _ _ _ (Act.put _ (some 9) (.int .i64 0)) _
                simp only [Act.put, List.setIfInBounds_toArray, List.set_cons_zero, List.set_cons_succ]
                refine wpAnyH_done (by kernel_rfl) ?_ _
                refine NoPanic.normal ?_
                go_wp2_with fail
                go_meet
                exact ⟨A13, n15, c17, rfl, hn19, hA21, rfl, hS12.1⟩
        case rest =>
          obtain ⟨A7, n7, c7, rfl, hn7, hA7, rfl, hB7⟩ := hcut
          subst hn7
          have H7 : Hid (SlotsAt wc A7 N ∧ rightB N = true ∧ FitS N ∧ Below w.heap.size w wc) := Lib.hid ⟨hA7, HN.out.1, HN.out.2, HL0.out.2.2.2.trans (hB7.mono HL0.out.2.2.2.size)⟩
          clear hA7 hB7 y0
          go_wp2_with fail
          go_roundw
          case rel => exact ⟨k + 1, A7, N, c7, by omega, by omega, by go_num, rfl, hN9, H7⟩
          case measure => simp [intOf]; omega
      · go_wp2_with fail
        go_ret
        exact ⟨A5, L, c5, rfl, HL0.out.1, HL0.out.2.1, hL9, HL0.out.2.2.1, HL0.out.2.2.2⟩
    · go_wp2_with fail
      go_ret
      exact ⟨A5, L, c5, rfl, HL0.out.1, HL0.out.2.1, hL9, HL0.out.2.2.1, HL0.out.2.2.2⟩

end Go.Proofs.Ytndhaickelbkiaa
