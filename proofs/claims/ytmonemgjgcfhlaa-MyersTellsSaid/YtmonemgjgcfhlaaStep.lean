/-
  withStep: a script, and behind it one step more.
-/
import Derived.Test.YtmonemgjgcfhlaaScr
import Derived.Deep.RegionHeld3
namespace Go.Proofs.Ytmonemgjgcfhlaa
open Go.RowKit

theorem step_append_run {P : Program} {ops : Array Oper} {o : Oper} {a : Act} {w w' : World} {K : Act → World → Prop} {Q : Exit → Act → World → Prop} {E : Prop} {sl x : Operand} {t ty : TypeId} {v u v' : Value}
    (hgd : o.guard = none) (hop : o.op = Op.call { callee := Callee.builtin Builtin.append, args := #[sl, x], argTypes := #[t, t] }) (hty : o.type = ty) (hs : a.eval sl = v) (hx : a.eval x = u)
    (hrun : (Builtin.append_ #[t, t] ty #[v, u]).run P w = .ok v' w') (h : K (a.put o.dst v') w') : if Region.wanted o (yielded ops a.tmps) = true then Oper.wp P o a w K Q else E := by
  subst hty
  have hw : Region.wanted o (yielded ops a.tmps) = true := by simp [Region.wanted, hgd]
  rw [if_pos hw]
  unfold Oper.wp
  simp [execOp, hop, resolve, invoke, builtin, hs, hx, hrun, Result.andThen]
  exact h

/-- a script with one step more -/
def stepE (es : List Edt) (op : Int) (ls : List ByteArray) : List Edt :=
  match es.getLast? with
  | none => [⟨op, 1, ls⟩]
  | some e => if e.op = op then es.dropLast ++ [⟨op, e.n + 1, e.lines ++ ls⟩] else es ++ [⟨op, 1, ls⟩]
theorem stepE_same (es : List Edt) (e : Edt) (ls : List ByteArray) : stepE (es ++ [e]) e.op ls = es ++ [⟨e.op, e.n + 1, e.lines ++ ls⟩] := by simp [stepE]
theorem stepE_new (es : List Edt) (op : Int) (ls : List ByteArray) (h : ∀ e, es.getLast? = some e → e.op ≠ op) : stepE es op ls = es ++ [⟨op, 1, ls⟩] := by
  unfold stepE
  cases he : es.getLast? with
  | none => rw [List.getLast?_eq_none_iff.1 he]; rfl
  | some e => simp [h e he]

/-- no text, or one, in a block of its own -/
def LsAt (w : World) (A : Option Addr) (ls : List ByteArray) : Prop := ls = [] ∨ ∃ s bl, ls = [s] ∧ A = some ⟨bl, 0, none⟩ ∧ Blk w bl 9 #[.string s]
/-- in the round over the texts -/
def Rnd (w : World) (base : Nat) (v : Value) (L : List MEd) (op : Int) (n : Nat) (old ls : List ByteArray) (A : Option Addr) (k : Nat) (wr : World) : Prop :=
  ∃ m : MEd, m.op = op ∧ m.n = n ∧ m.lines = old ++ ls.take k ∧ Scr wr base v (L ++ [m]) ∧ Below base w wr ∧ (k = 0 → LsAt wr A ls)

set_option maxHeartbeats 2000000 in
set_option maxRecDepth 100000 in
theorem withStep_same (L0 : List MEd) (m : MEd) (g cap : Nat) (ls : List ByteArray) (A : Option Addr) (c base : Nat) (w : World) (hS : Scr w base (.slice (some ⟨g, 0, none⟩) (L0.length + 1) cap) (L0 ++ [m])) (hls : LsAt w A ls) (hsz : ∀ s ∈ ls, s.size ≤ 140737488355328)
    (hL : L0.length ≤ 1073) (hmb : m.n ≤ 1073741 ∧ m.lines.length ≤ 1073) :
    Calls Try.prog 33 #[.slice (some ⟨g, 0, none⟩) (L0.length + 1) cap, .int .i64 m.op, .slice A ls.length c] w fun e w' => ∃ v' L', e = .returned v' ∧ Scr w' base v' L' ∧ L'.map MEd.e = stepE ((L0 ++ [m]).map MEd.e) m.op ls ∧ Below base w w' := by
  have HSZ := Lib.hid hsz
  clear hsz
  have hl1 : ls.length ≤ 1 := by rcases hls with rfl | ⟨s, bl, rfl, _⟩ <;> simp
  obtain ⟨c1, c2, c3, hz, hbg, hgl⟩ := hS.last
  have HP : Hid (∀ m' : MEd, m'.op = m.op → m'.n = m.n + 1 → m'.lines = m.lines ++ ls → (L0 ++ [m']).map MEd.e = stepE ((L0 ++ [m]).map MEd.e) m.op ls) := Lib.hid (fun m' e1 e2 e3 => by
    rw [List.map_append, List.map_append]
    have := stepE_same (L0.map MEd.e) m.e ls
    simp only [List.map_cons, List.map_nil]
    rw [show m.op = m.e.op from rfl, this]
    simp [MEd.e, e1, e2, e3])
  have HB0 : Hid (Below base w w) := Lib.hid (Below.refl _ _)
  have HLS := Lib.hid hls
  have hz1 := hz (L0.length * 3 + 1)
  have HS := Lib.hid hS
  have q1 : ((L0.length : Int) + 1 == 0) = false := by rw [beq_eq_false_iff_ne]; omega
  clear hz hS hls
  go_enter Try.func33, Try.ntmps33
  go_wp2_with fail
  have HS2 := Lib.hid (HS.out.bump (m.n + 1))
  have HB2 : Hid (Below base w (w.setCell ⟨g, L0.length * 3 + 1, none⟩ (.int .i64 ((m.n + 1 : Nat) : Int)))) := Lib.hid (HB0.out.setCell (p := ⟨g, L0.length * 3 + 1, none⟩) hbg _)
  have HLS2 : Hid (LsAt (w.setCell ⟨g, L0.length * 3 + 1, none⟩ (.int .i64 ((m.n + 1 : Nat) : Int))) A ls) := Lib.hid (by
    rcases HLS.out with h | ⟨s, bl, h1, h2, h3⟩
    · exact .inl h
    · refine .inr ⟨s, bl, h1, h2, h3.far (p := ⟨g, L0.length * 3 + 1, none⟩) (fun e => own_blk_ne HS.out.row h3 (by decide) (by rw [e]; rfl)) _⟩)
  have hmn : ((m.n + 1 : Nat) : Int) = (m.n : Int) + 1 := by omega
  rw [hmn] at HS2 HB2 HLS2
  go_loopw [43] (fun i wr => ∃ k : Nat, k ≤ ls.length ∧ i = .int .i64 k ∧ Rnd w base (.slice (some ⟨g, 0, none⟩) (L0.length + 1) cap) L0 m.op (m.n + 1) m.lines ls A k wr) (fun i _ => ls.length - (intOf i).toNat)
  case atStart => exact ⟨0, Nat.zero_le _, rfl, { m with n := m.n + 1 }, rfl, rfl, by simp, HS2.out, HB2.out, fun _ => HLS2.out⟩
  case round =>
    obtain ⟨k, hk, rfl, m1, e1, e2, e3, hSr, hBr, hLr⟩ := hrel
    clear c1 c2 c3 hz1 hmn
    by_cases g1 : k < ls.length
    · have hk0 : k = 0 := by omega
      subst hk0
      rcases hLr rfl with h | ⟨s, bl, h1, rfl, h3⟩
      · rw [h] at g1; simp at g1
      · have H1 := Lib.hid h1
        have hss := HSZ.out s (by rw [h1]; simp)
        clear h1
        obtain ⟨_, _, d3, _, _, dgl⟩ := hSr.last
        have hce : wr.cell? ⟨bl, 0, none⟩ = some (.string s) := h3.cell 0
        have hml : m1.lines.length ≤ 1073741 := by rw [e3]; simp; omega
        have E1 := Lib.hid e1
        have E2 := Lib.hid e2
        have E3 := Lib.hid e3
        have HSr : Hid (Scr wr.drew base (.slice (some ⟨g, 0, none⟩) (L0.length + 1) cap) (L0 ++ [m1])) := Lib.hid ⟨hSr.row, hSr.own, hSr.apart⟩
        have HBr := Lib.hid (below_drewN hBr 1)
        clear e1 e2 e3 hSr hBr hLr h3 hk
        have hbd : base ≤ wr.drew.heap.size := Nat.le_of_lt (Nat.lt_of_le_of_lt hbg dgl)
        obtain ⟨mv, hmv⟩ : ∃ mv, mv = m1.val := ⟨_, rfl⟩
        rw [← hmv] at d3
        have HMV := Lib.hid hmv
        clear hmv
        go_wp2_with fail
        go_region_law ((first | (refine step_append_run rfl rfl rfl (by simp [Act.eval]) (by simp [Act.eval]) HR7.out ?_) | (go_simp; refine (clone_any _ _ hss).mono ?_; rintro e w1 ⟨rfl, hb⟩; have hk8 : w1.cell? ⟨g, L0.length * 3 + 2, none⟩ = some mv := (by rw [HMV.out]; exact (HSr.out.step hb).last.2.2.1); have hgl8 : g < w1.heap.size := (HSr.out.step hb).last.2.2.2.2.2; obtain ⟨A7, c7, W7, hrun7, hk7, hf7, hS7, hB7⟩ := (HSr.out.step hb).line s hml (Nat.le_trans hbd hb.size); rw [← HMV.out] at hrun7 hk7; have HR7 := Lib.hid hrun7; have HS7 := Lib.hid hS7; have HB7 := Lib.hid hB7; clear hrun7 hS7 hB7; dsimp only)))
        all_goals
          go_wp2_with fail
          go_roundw
          case rel => exact ⟨1, by omega, by simp, { m1 with A := A7, cap := c7, lines := m1.lines ++ [s] }, E1.out, E2.out, (by rw [H1.out]; simp [E3.out]), HS7.out, (HBr.out.trans (hb.mono hbd)).trans HB7.out, fun h => absurd h (by simp)⟩
          case measure => simp [intOf]; omega
    · have htk : ls.take k = ls := List.take_of_length_le (by omega)
      rw [htk] at e3
      have hfin := HP.out m1 e1 e2 e3
      have HFIN := Lib.hid hfin
      have HSR := Lib.hid hSr
      have HLR := Lib.hid hLr
      clear e1 e2 e3 htk hfin hSr hLr
      go_wp2_with fail
      go_ret
      exact ⟨_, L0 ++ [m1], rfl, HSR.out, HFIN.out, hBr⟩

set_option maxHeartbeats 2000000 in
set_option maxRecDepth 100000 in
theorem withStep_new (L : List MEd) (v : Value) (op : Int) (ls : List ByteArray) (A : Option Addr) (c base : Nat) (w : World) (hS : Scr w base v L) (hbase : base ≤ w.heap.size) (hls : LsAt w A ls) (hsz : ∀ s ∈ ls, s.size ≤ 140737488355328)
    (hL : L.length ≤ 1073) (hne : ∀ m, L.getLast? = some m → m.op ≠ op) :
    Calls Try.prog 33 #[v, .int .i64 op, .slice A ls.length c] w fun e w' => ∃ v' L', e = .returned v' ∧ Scr w' base v' L' ∧ L'.map MEd.e = stepE (L.map MEd.e) op ls ∧ Below base w w' := by
  have HSZ := Lib.hid hsz
  clear hsz
  have hl1 : ls.length ≤ 1 := by rcases hls with rfl | ⟨s, bl, rfl, _⟩ <;> simp
  obtain ⟨A1, cp1, W1, hrun, hS1, hB1, hblk⟩ := hS.push ⟨op, 0, none, 0, []⟩ (World.ownsRow_nil _ _ _ _) (fun m' _ => by by_cases h : m'.val.ownBlock = none; exact .inl h; exact .inr (by simpa [MEd.val, Value.ownBlock] using h)) (by omega) hbase
  obtain ⟨g, cap, hv, _, _⟩ := hS1.row.form (by simp)
  rw [List.length_append, List.length_singleton] at hv
  injection hv with hA1 _ hcp
  subst hA1 hcp
  obtain ⟨m, hm⟩ : ∃ m : MEd, m = ⟨op, 0, none, 0, []⟩ := ⟨_, rfl⟩
  have hmop : m.op = op := by rw [hm]
  have hmn0 : m.n = 0 := by rw [hm]
  have hmb : m.n ≤ 1073741 ∧ m.lines.length ≤ 1073 := by rw [hm]; simp
  have hS1' : Scr W1 base (.slice (some ⟨g, 0, none⟩) (L.length + 1) cp1) (L ++ [m]) := by rw [hm]; exact hS1
  obtain ⟨c1, c2, c3, hz, hbg, hgl⟩ := hS1'.last
  subst hmop
  have HR : Hid ((Builtin.append_ #[28, 28] 28 #[v, .slice (some ⟨w.heap.size, 0, none⟩) 1 1]).run Try.prog (w.alloc (.cells #[.int .i64 m.op, .int .i64 0, .slice none 0 0] 38)) = .ok (.slice (some ⟨g, 0, none⟩) (L.length + 1) cp1) W1) := Lib.hid hrun
  have HP : Hid (∀ m' : MEd, m'.op = m.op → m'.n = m.n + 1 → m'.lines = m.lines ++ ls → (L ++ [m']).map MEd.e = stepE (L.map MEd.e) m.op ls) := Lib.hid (fun m' e1 e2 e3 => by
    rw [stepE_new _ _ _ (fun e he => by
      rw [List.getLast?_map] at he
      cases hl : L.getLast? with
      | none => rw [hl] at he; cases he
      | some m9 => rw [hl] at he; injection he with he; subst he; exact hne m9 hl), List.map_append]
    have e4 : m.lines = [] := by rw [hm]
    rw [e4] at e3
    rw [hmn0] at e2
    simp [MEd.e, e1, e2, e3])
  have HS := Lib.hid hS1'
  have HB0 := Lib.hid hB1
  have HLS : Hid (LsAt W1 A ls) := Lib.hid (by rcases hls with h | ⟨s, bl, h1, h2, h3⟩; exact .inl h; exact .inr ⟨s, bl, h1, h2, hblk _ _ h3⟩)
  have hz1 := hz (L.length * 3 + 1)
  have HN0 := Lib.hid hmn0
  have HM := Lib.hid hm
  clear hrun hS1 hS1' hB1 hblk hz hls hm hmn0
  obtain ⟨cap, hcap⟩ : ∃ cap, cap = cp1 := ⟨_, rfl⟩
  subst hcap
  rcases List.eq_nil_or_concat L with hn | ⟨L9, m9, h9⟩
  · have hsh : ∃ A9 c9, v = .slice A9 0 c9 := by
      rcases hS.row.2 with ⟨e, _⟩ | ⟨g9, cap9, cur9, e, _⟩
      · exact ⟨_, _, e⟩
      · rw [hn] at e; exact ⟨_, _, e⟩
    obtain ⟨A9, c9, rfl⟩ := hsh
    have HN := Lib.hid hn
    clear hn hS hne
    go_enter Try.func33, Try.ntmps33
    go_wp2_with (at_builtin; refine wpList_append_run rfl rfl (by simp [Region.wanted]) rfl rfl HR.out ?_)
    have HS2 := Lib.hid (HS.out.bump (m.n + 1))
    have HB2 : Hid (Below base w (W1.setCell ⟨g, L.length * 3 + 1, none⟩ (.int .i64 ((m.n + 1 : Nat) : Int)))) := Lib.hid (HB0.out.setCell (p := ⟨g, L.length * 3 + 1, none⟩) hbg _)
    have HLS2 : Hid (LsAt (W1.setCell ⟨g, L.length * 3 + 1, none⟩ (.int .i64 ((m.n + 1 : Nat) : Int))) A ls) := Lib.hid (by
      rcases HLS.out with h | ⟨s, bl, h1, h2, h3⟩
      · exact .inl h
      · refine .inr ⟨s, bl, h1, h2, h3.far (p := ⟨g, L.length * 3 + 1, none⟩) (fun e => own_blk_ne HS.out.row h3 (by decide) (by rw [e]; rfl)) _⟩)
    have hmn : ((m.n + 1 : Nat) : Int) = (m.n : Int) + 1 := by omega
    rw [hmn] at HS2 HB2 HLS2
    go_loopw [43] (fun i wr => ∃ k : Nat, k ≤ ls.length ∧ i = .int .i64 k ∧ Rnd w base (.slice (some ⟨g, 0, none⟩) (L.length + 1) cap) L m.op (m.n + 1) m.lines ls A k wr) (fun i _ => ls.length - (intOf i).toNat)
    case atStart => exact ⟨0, Nat.zero_le _, rfl, { m with n := m.n + 1 }, rfl, rfl, by simp, HS2.out, HB2.out, fun _ => HLS2.out⟩
    case round =>
      obtain ⟨k, hk, rfl, m1, e1, e2, e3, hSr, hBr, hLr⟩ := hrel
      clear c1 c2 c3 hz1 hmn
      by_cases g1 : k < ls.length
      · have hk0 : k = 0 := by omega
        subst hk0
        rcases hLr rfl with h | ⟨s, bl, h1, rfl, h3⟩
        · rw [h] at g1; simp at g1
        · have H1 := Lib.hid h1
          have hss := HSZ.out s (by rw [h1]; simp)
          clear h1
          obtain ⟨_, _, d3, _, _, dgl⟩ := hSr.last
          have hce : wr.cell? ⟨bl, 0, none⟩ = some (.string s) := h3.cell 0
          have hml : m1.lines.length ≤ 1073741 := by rw [e3]; simp; omega
          have E1 := Lib.hid e1
          have E2 := Lib.hid e2
          have E3 := Lib.hid e3
          have HSr : Hid (Scr wr.drew base (.slice (some ⟨g, 0, none⟩) (L.length + 1) cap) (L ++ [m1])) := Lib.hid ⟨hSr.row, hSr.own, hSr.apart⟩
          have HBr := Lib.hid (below_drewN hBr 1)
          clear e1 e2 e3 hSr hBr hLr h3 hk
          have hbd : base ≤ wr.drew.heap.size := Nat.le_of_lt (Nat.lt_of_le_of_lt hbg dgl)
          obtain ⟨mv, hmv⟩ : ∃ mv, mv = m1.val := ⟨_, rfl⟩
          rw [← hmv] at d3
          have HMV := Lib.hid hmv
          clear hmv
          go_wp2_with fail
          go_region_law ((first | (refine step_append_run rfl rfl rfl (by simp [Act.eval]) (by simp [Act.eval]) HR7.out ?_) | (go_simp; refine (clone_any _ _ hss).mono ?_; rintro e w1 ⟨rfl, hb⟩; have hk8 : w1.cell? ⟨g, L.length * 3 + 2, none⟩ = some mv := (by rw [HMV.out]; exact (HSr.out.step hb).last.2.2.1); have hgl8 : g < w1.heap.size := (HSr.out.step hb).last.2.2.2.2.2; obtain ⟨A7, c7, W7, hrun7, hk7, hf7, hS7, hB7⟩ := (HSr.out.step hb).line s hml (Nat.le_trans hbd hb.size); rw [← HMV.out] at hrun7 hk7; have HR7 := Lib.hid hrun7; have HS7 := Lib.hid hS7; have HB7 := Lib.hid hB7; clear hrun7 hS7 hB7; dsimp only)))
          all_goals
            go_wp2_with fail
            go_roundw
            case rel => exact ⟨1, by omega, by simp, { m1 with A := A7, cap := c7, lines := m1.lines ++ [s] }, E1.out, E2.out, (by rw [H1.out]; simp [E3.out]), HS7.out, (HBr.out.trans (hb.mono hbd)).trans HB7.out, fun h => absurd h (by simp)⟩
            case measure => simp [intOf]; omega
      · have htk : ls.take k = ls := List.take_of_length_le (by omega)
        rw [htk] at e3
        have hfin := HP.out m1 e1 e2 e3
        have HFIN := Lib.hid hfin
        have HSR := Lib.hid hSr
        have HLR := Lib.hid hLr
        clear e1 e2 e3 htk hfin hSr hLr
        go_wp2_with fail
        go_ret
        exact ⟨_, L ++ [m1], rfl, HSR.out, HFIN.out, hBr⟩
  · rw [List.concat_eq_append] at h9
    have hS9 := hS
    rw [h9] at hS9
    obtain ⟨g9, cap9, hv9, _, _⟩ := hS9.row.form (by simp)
    rw [List.length_append, List.length_singleton] at hv9
    subst hv9
    obtain ⟨c91, _, _, _, _, _⟩ := hS9.last
    have q1 : ((L9.length : Int) + 1 == 0) = false := by rw [beq_eq_false_iff_ne]; omega
    have q2 : (m9.op != m.op) = true := by rw [bne_iff_ne]; exact hne m9 (by rw [h9]; simp)
    have hl9 : L9.length + 1 ≤ 1073 := by rw [h9] at hL; simpa using hL
    have H9 := Lib.hid h9
    clear h9 hS hS9 hne
    go_enter Try.func33, Try.ntmps33
    go_wp2_with (at_builtin; refine wpList_append_run rfl rfl (by simp [Region.wanted]) rfl rfl HR.out ?_)
    have HS2 := Lib.hid (HS.out.bump (m.n + 1))
    have HB2 : Hid (Below base w (W1.setCell ⟨g, L.length * 3 + 1, none⟩ (.int .i64 ((m.n + 1 : Nat) : Int)))) := Lib.hid (HB0.out.setCell (p := ⟨g, L.length * 3 + 1, none⟩) hbg _)
    have HLS2 : Hid (LsAt (W1.setCell ⟨g, L.length * 3 + 1, none⟩ (.int .i64 ((m.n + 1 : Nat) : Int))) A ls) := Lib.hid (by
      rcases HLS.out with h | ⟨s, bl, h1, h2, h3⟩
      · exact .inl h
      · refine .inr ⟨s, bl, h1, h2, h3.far (p := ⟨g, L.length * 3 + 1, none⟩) (fun e => own_blk_ne HS.out.row h3 (by decide) (by rw [e]; rfl)) _⟩)
    have hmn : ((m.n + 1 : Nat) : Int) = (m.n : Int) + 1 := by omega
    rw [hmn] at HS2 HB2 HLS2
    go_loopw [43] (fun i wr => ∃ k : Nat, k ≤ ls.length ∧ i = .int .i64 k ∧ Rnd w base (.slice (some ⟨g, 0, none⟩) (L.length + 1) cap) L m.op (m.n + 1) m.lines ls A k wr) (fun i _ => ls.length - (intOf i).toNat)
    case atStart => exact ⟨0, Nat.zero_le _, rfl, { m with n := m.n + 1 }, rfl, rfl, by simp, HS2.out, HB2.out, fun _ => HLS2.out⟩
    case round =>
      obtain ⟨k, hk, rfl, m1, e1, e2, e3, hSr, hBr, hLr⟩ := hrel
      clear c1 c2 c3 hz1 hmn
      by_cases g1 : k < ls.length
      · have hk0 : k = 0 := by omega
        subst hk0
        rcases hLr rfl with h | ⟨s, bl, h1, rfl, h3⟩
        · rw [h] at g1; simp at g1
        · have H1 := Lib.hid h1
          have hss := HSZ.out s (by rw [h1]; simp)
          clear h1
          obtain ⟨_, _, d3, _, _, dgl⟩ := hSr.last
          have hce : wr.cell? ⟨bl, 0, none⟩ = some (.string s) := h3.cell 0
          have hml : m1.lines.length ≤ 1073741 := by rw [e3]; simp; omega
          have E1 := Lib.hid e1
          have E2 := Lib.hid e2
          have E3 := Lib.hid e3
          have HSr : Hid (Scr wr.drew base (.slice (some ⟨g, 0, none⟩) (L.length + 1) cap) (L ++ [m1])) := Lib.hid ⟨hSr.row, hSr.own, hSr.apart⟩
          have HBr := Lib.hid (below_drewN hBr 1)
          clear e1 e2 e3 hSr hBr hLr h3 hk
          have hbd : base ≤ wr.drew.heap.size := Nat.le_of_lt (Nat.lt_of_le_of_lt hbg dgl)
          obtain ⟨mv, hmv⟩ : ∃ mv, mv = m1.val := ⟨_, rfl⟩
          rw [← hmv] at d3
          have HMV := Lib.hid hmv
          clear hmv
          go_wp2_with fail
          go_region_law ((first | (refine step_append_run rfl rfl rfl (by simp [Act.eval]) (by simp [Act.eval]) HR7.out ?_) | (go_simp; refine (clone_any _ _ hss).mono ?_; rintro e w1 ⟨rfl, hb⟩; have hk8 : w1.cell? ⟨g, L.length * 3 + 2, none⟩ = some mv := (by rw [HMV.out]; exact (HSr.out.step hb).last.2.2.1); have hgl8 : g < w1.heap.size := (HSr.out.step hb).last.2.2.2.2.2; obtain ⟨A7, c7, W7, hrun7, hk7, hf7, hS7, hB7⟩ := (HSr.out.step hb).line s hml (Nat.le_trans hbd hb.size); rw [← HMV.out] at hrun7 hk7; have HR7 := Lib.hid hrun7; have HS7 := Lib.hid hS7; have HB7 := Lib.hid hB7; clear hrun7 hS7 hB7; dsimp only)))
          all_goals
            go_wp2_with fail
            go_roundw
            case rel => exact ⟨1, by omega, by simp, { m1 with A := A7, cap := c7, lines := m1.lines ++ [s] }, E1.out, E2.out, (by rw [H1.out]; simp [E3.out]), HS7.out, (HBr.out.trans (hb.mono hbd)).trans HB7.out, fun h => absurd h (by simp)⟩
            case measure => simp [intOf]; omega
      · have htk : ls.take k = ls := List.take_of_length_le (by omega)
        rw [htk] at e3
        have hfin := HP.out m1 e1 e2 e3
        have HFIN := Lib.hid hfin
        have HSR := Lib.hid hSr
        have HLR := Lib.hid hLr
        clear e1 e2 e3 htk hfin hSr hLr
        go_wp2_with fail
        go_ret
        exact ⟨_, L ++ [m1], rfl, HSR.out, HFIN.out, hBr⟩

theorem withStep_any (v : Value) (L : List MEd) (op : Int) (ls : List ByteArray) (A : Option Addr) (c base : Nat) (w : World) (hS : Scr w base v L) (hbase : base ≤ w.heap.size) (hls : LsAt w A ls) (hsz : ∀ s ∈ ls, s.size ≤ 140737488355328)
    (hL : L.length ≤ 1073) (hb : ∀ m ∈ L, m.n ≤ 1073741 ∧ m.lines.length ≤ 1073) :
    Calls Try.prog 33 #[v, .int .i64 op, .slice A ls.length c] w fun e w' => ∃ v' L', e = .returned v' ∧ Scr w' base v' L' ∧ L'.map MEd.e = stepE (L.map MEd.e) op ls ∧ Below base w w' := by
  rcases List.eq_nil_or_concat L with rfl | ⟨L0, m, h⟩
  · exact withStep_new [] v op ls A c base w hS hbase hls hsz (by simp) (by simp)
  · rw [List.concat_eq_append] at h
    subst h
    by_cases e : m.op = op
    · subst e
      obtain ⟨g, cap, hv, _, _⟩ := hS.row.form (by simp)
      rw [List.length_append, List.length_singleton] at hv
      subst hv
      exact withStep_same L0 m g cap ls A c base w hS hls hsz (by simp at hL; omega) (hb m (by simp))
    · exact withStep_new (L0 ++ [m]) v op ls A c base w hS hbase hls hsz hL (by simp [e])

end Go.Proofs.Ytmonemgjgcfhlaa
