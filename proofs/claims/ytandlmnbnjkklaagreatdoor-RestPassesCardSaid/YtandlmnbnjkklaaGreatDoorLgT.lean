/- The law's copy of a ledger. -/
import Derived.Test.YtandlmnbnjkklaaGreatDoorLgS7
namespace Go.Proofs.YtandlmnbnjkklaaGreatDoor
open Go.RowKit Go.BigFrame

/-- an append of a slice that may be nil, at one step of a region that draws its order -/
theorem wp_append_all {P : Program} (w : World) {o : Oper} {a : Act} {K : Act → World → Prop} {Q : Exit → Act → World → Prop} (s x : Operand) (t : TypeId)
    (ho : o.op = .call { callee := .builtin .append, args := #[s, x], argTypes := #[t, t] })
    (base : Nat) (e : TypeId) (i : TypeInfo) (z : Value) (size bytes : Nat) (ht : P.underlying t = some (.slice e)) (hi : P.info? e = some i) (hz : i.zero = some z)
    (hsize : i.size = size) (hby : i.bytes = bytes) (hzs : z.cells.size = size) (hsz : 0 < size)
    (v : Value) (n : Nat) (xs : List Value) (hs : a.eval s = v) (hown : w.ownsRow base e size v n xs)
    (ao : Option Addr) (m c : Nat) (news : List Value) (hx : a.eval x = .slice ao m c) (hnil : ao = none → m = 0 ∧ c = 0) (hl : news.length = m * size) (hnews : ∀ ad, ao = some ad → ∀ j u, news[j]? = some u → w.cell? (ad.add j) = some u) (h1 : ∀ u ∈ news, u.oneCell' = true)
    (h63 : n + m ≤ maxLen) (hbytes : (n + m) * bytes ≤ 140737488355328) (hbase : base ≤ w.heap.size)
    (h : ∀ v' w', w'.ownsRow base e size v' (n + m) (xs ++ news) → w.grownBy w' v.ownBlock → K (a.put o.dst v') w') : o.wp P a w K Q := by
  cases ao with
  | some ad => exact wp_append_own w s x t ho base e i z size bytes ht hi hz hsize hby hzs hsz v n xs hs hown ad m c news hx hl (hnews ad rfl) h1 h63 hbytes hbase fun v' w' a b _ => h v' w' a b
  | none =>
    obtain ⟨rfl, rfl⟩ := hnil rfl
    have hn : news = [] := List.eq_nil_of_length_eq_zero (by simpa using hl)
    subst hn
    have hr := run_append_owned_none (P := P) (w := w) base t o.type e i size ht hi v n xs hown
    unfold Oper.wp execOp
    simp only [ho, resolve, invoke, builtin, Sem.run_bind, Sem.run_pure, Result.andThen_ok, List.map_toArray, List.map_cons, List.map_nil, hs, hx, hr]
    exact h v w (by simpa using hown) (World.grownBy.refl w _)
/-- a ledger as it came in: a nil slice of lines has no room -/
def RowGN (w : World) (a : Option Addr) (l : List Lg.Ps) : Prop := ∀ k, k < l.length → ∃ b off id ls la lc, a = some ⟨b, off, none⟩ ∧ b < w.heap.size ∧ l[k]? = some (id, ls) ∧ w.cell? ⟨b, off + k * 2, none⟩ = some (.int .i64 id) ∧ w.cell? ⟨b, off + k * 2 + 1, none⟩ = some (.slice la ls.length lc) ∧ (la = none → ls = [] ∧ lc = 0) ∧ RowL w la ls
theorem RowGN.below {w w' : World} {a : Option Addr} {l : List Lg.Ps} (h : RowGN w a l) (hb : Below w.heap.size w w') : RowGN w' a l := fun k hk => by
  obtain ⟨b, off, id, ls, la, lc, h1, h2, h3, h4, h5, h6, h7⟩ := h k hk
  exact ⟨b, off, id, ls, la, lc, h1, Nat.lt_of_lt_of_le h2 hb.size, h3, (hb.cell (p := ⟨b, _, none⟩) h2).trans h4, (hb.cell (p := ⟨b, _, none⟩) h2).trans h5, h6, h7.below hb⟩
/-- postings that were copied: the lines lie in blocks that are none of the row's -/
def CN (w : World) (v : Value) (us : List Pu) (l : List Lg.Ps) : Prop := us.length = l.length ∧ ∀ (i : Nat) (u : Pu) (p : Lg.Ps), us[i]? = some u → l[i]? = some p → u.1 = p.1 ∧ ∃ la c, u.2 = .slice la p.2.length c ∧ p.2.length ≤ c ∧ (la = none ∨ ∃ g, la = some ⟨g, 0, none⟩ ∧ v.ownBlock ≠ some g ∧ g < w.heap.size) ∧ RowL w la p.2
theorem CN.nil (w : World) (v : Value) : CN w v [] [] := ⟨rfl, fun i u p hu _ => by simp at hu⟩
theorem CN.rd {w : World} {v : Value} {us : List Pu} {l : List Lg.Ps} (h : CN w v us l) : RdAll w us l :=
  ⟨h.1, fun i u p hu hp => by
    obtain ⟨h1, la, c, h2, h3, _, h4⟩ := h.2 i u p hu hp
    exact ⟨h1, la, c, h2, h3, h4⟩⟩
theorem cellT_new (w : World) (a b : Value) (t : TypeId) : ∀ j u, [a, b][j]? = some u → (w.alloc (.cells #[a, b] t)).cell? ((⟨w.heap.size, 0, none⟩ : Addr).add j) = some u := by
  intro j u hj
  match j, hj with
  | 0, hj => simp at hj; subst hj; simp [Addr.add]
  | 1, hj => simp at hj; subst hj; simp [Addr.add]
  | j + 2, hj => simp at hj
theorem RowL.none {w : World} {l : List Lg.Ln} (h : RowL w none l) : l = [] := by
  rcases h with h | ⟨b, off, e, _⟩
  · exact h
  · cases e
theorem CN.step {w wr w2 w1 : World} {v : Value} {us : List Pu} {l : List Lg.Ps} {id : Int} {ls : List Lg.Ln} {la : Option Addr} {c g1 k1 : Nat} {t : TypeId} (hB : Below w.heap.size w w2) (ho : OwnG wr w.heap.size v us) (hc : CN wr v us l) (h2 : Below wr.heap.size wr w2)
    (hla : la = none ∨ ∃ g, la = some ⟨g, 0, none⟩ ∧ wr.heap.size ≤ g ∧ g < w2.heap.size) (hnc : ls.length ≤ c) (hr : RowL w2 la ls)
    (hown : w1.ownsRow w.heap.size 34 2 (.slice (some ⟨g1, 0, none⟩) (us.length + 1) k1) (us.length + 1) (flatP us ++ [.int .i64 id, .slice la ls.length c]))
    (hgrow : (w2.alloc (.cells #[.int .i64 id, .slice la ls.length c] t)).grownBy w1 v.ownBlock) (hat : v.ownBlock = some g1 ∨ g1 = w2.heap.size + 1) :
    OwnG w1 w.heap.size (.slice (some ⟨g1, 0, none⟩) (us.length + 1) k1) (us ++ [(id, .slice la ls.length c)]) ∧ CN w1 (.slice (some ⟨g1, 0, none⟩) (us.length + 1) k1) (us ++ [(id, .slice la ls.length c)]) (l ++ [(id, ls)]) ∧ Below w.heap.size w w1 := by
  have hv : ∀ j, v.ownBlock = some j → j < wr.heap.size := fun j hj => (World.ownsRow.lt ho j hj).2
  have key : ∀ g, v.ownBlock ≠ some g → g < w2.heap.size → (Value.slice (some ⟨g1, 0, none⟩) (us.length + 1) k1).ownBlock ≠ some g := fun g h3 h4 e => by
    have e : g1 = g := by simpa [Value.ownBlock] using e
    rcases hat with h | h
    · exact h3 (h.trans (by rw [e]))
    · omega
  have mv : ∀ (la : Option Addr) (ls : List Lg.Ln), (la = none ∨ ∃ g, la = some ⟨g, 0, none⟩ ∧ v.ownBlock ≠ some g ∧ g < w2.heap.size) → RowL w2 la ls → (la = none ∨ ∃ g, la = some ⟨g, 0, none⟩ ∧ (Value.slice (some ⟨g1, 0, none⟩) (us.length + 1) k1).ownBlock ≠ some g ∧ g < w1.heap.size) ∧ RowL w1 la ls := fun la ls h3 h4 => by
    rcases h3 with rfl | ⟨g, rfl, h5, h6⟩
    · exact ⟨.inl rfl, .inl h4.none⟩
    · exact ⟨.inr ⟨g, rfl, key g h5 h6, Nat.lt_of_lt_of_le (by simp; omega) hgrow.size⟩, (h4.below (below_box w2 _)).grown hgrow h5⟩
  refine ⟨?_, ⟨?_, fun i x q hx hq => ?_⟩, ?_⟩
  · unfold OwnG; rw [flatP_append, List.length_append]; exact hown
  · rw [List.length_append, List.length_append, hc.1]; rfl
  · rcases Nat.lt_or_ge i us.length with c' | c'
    · rw [List.getElem?_append_left c'] at hx
      rw [List.getElem?_append_left (by have := hc.1; omega)] at hq
      obtain ⟨a1, la', c1, a2, a3, a4, a5⟩ := hc.2 i x q hx hq
      have := mv la' q.2 (a4.imp _root_.id fun ⟨g, e, h5, h6⟩ => ⟨g, e, h5, Nat.lt_of_lt_of_le h6 h2.size⟩) (a5.below h2)
      exact ⟨a1, la', c1, a2, a3, this.1, this.2⟩
    · rw [List.getElem?_append_right c'] at hx
      rw [List.getElem?_append_right (by have := hc.1; omega)] at hq
      have h1 := hc.1
      rw [← h1] at hq
      match hk : i - us.length, hx, hq with
      | 0, hx, hq =>
        simp at hx hq; subst hx hq
        have := mv la ls (hla.imp _root_.id fun ⟨g, e, h5, h6⟩ => ⟨g, e, fun e2 => by have := hv g e2; omega, h6⟩) hr
        exact ⟨rfl, la, c, rfl, hnc, this.1, this.2⟩
      | k + 1, hx, hq => simp at hx
  · exact (hB.alloc hB.size _).grown hgrow (by have := hB.size; simp; omega) (fun j hj => (World.ownsRow.lt ho j hj).1)
set_option maxRecDepth 100000 in
set_option maxHeartbeats 4000000 in
theorem ledger2_any (l : List Lg.Ps) (a : Option Addr) (cap : Nat) (w : World) (hl : l.length * 32 ≤ 140737488351232) (hz : ∀ p ∈ l, p.2.length * 16 ≤ 140737488351232) (hr : RowGN w a l) :
    Calls Tryz.prog 4 #[.slice a l.length cap] w fun e w' => ∃ a' cap', e = .returned (.slice a' l.length cap') ∧ l.length ≤ cap' ∧ (a' = none → l = [] ∧ cap' = 0) ∧ RowG w' a' l ∧ Below w.heap.size w w' := by
  obtain ⟨n, hn⟩ : ∃ n, l.length = n := ⟨_, rfl⟩
  have HN : Hid (l.length = n) := hn
  have R : Hid (RowGN w a l) := hr
  have HZ : Hid (∀ p ∈ l, p.2.length * 16 ≤ 140737488351232) := hz
  obtain ⟨i0, hi0, hi1, hi2, hi3⟩ := infoG
  have HI : Hid (Tryz.prog.info? 34 = some i0 ∧ i0.zero = some (.agg #[.int .i64 0, .slice none 0 0]) ∧ i0.size = 2 ∧ i0.bytes = 32) := ⟨hi0, hi1, hi2, hi3⟩
  obtain ⟨j0, hj0, hj1, hj2, hj3⟩ := infoL
  have HJ : Hid (Tryz.prog.info? 54 = some j0 ∧ j0.zero = some (.agg #[.int .i64 0, .int .i64 0]) ∧ j0.size = 2 ∧ j0.bytes = 16) := ⟨hj0, hj1, hj2, hj3⟩
  rw [hn] at hl ⊢
  clear hn hr hz hi0 hi1 hi2 hi3 hj0 hj1 hj2 hj3
  go_enter Tryz.func4, Tryz.ntmps4
  go_wp2
  go_loopw [3, 4] (fun ov iv wr => ∃ (k : Nat) (us : List Pu) (v : Value), k ≤ n ∧ iv = .int .i64 k ∧ v = ov ∧ OwnG wr w.heap.size v us ∧ CN wr v us (l.take k) ∧ Below w.heap.size w wr) (fun _ iv _ => n - (intOf iv).toNat)
  case atStart => exact ⟨0, [], _, Nat.zero_le _, rfl, rfl, OwnG.nil _ _, CN.nil _ _, Below.refl _ _⟩
  case round =>
    obtain ⟨k, us, v, hk, rfl, rfl, hown, hcn, hb⟩ := hrel
    have HO : Hid (OwnG wr w.heap.size v us) := hown
    have HC : Hid (CN wr v us (l.take k)) := hcn
    have HB : Hid (Below w.heap.size w wr) := hb
    have HUL : Hid (us.length = k) := by show _ = _; rw [hcn.1, List.length_take, HN.out]; omega
    clear hown hcn hb
    by_cases hlt : k < n
    · have hlt' : (k : Int) < (n : Int) := by omega
      obtain ⟨b, off, id, ls, la, lc, rfl, hb, hx, c1, c2, hnl, hrl⟩ := R.out k (by rw [HN.out]; exact hlt)
      have HX : Hid (l[k]? = some (id, ls)) := hx
      have hzl := HZ.out (id, ls) (List.mem_of_getElem? hx)
      simp only at hzl
      have HL : Hid ((la = none → ls = [] ∧ lc = 0) ∧ RowL w la ls) := ⟨hnl, hrl⟩
      have HSQ : Hid (∀ W, Below w.heap.size w W → W.cell? ⟨b, off + k * 2, none⟩ = some (.int .i64 id) ∧ W.cell? ⟨b, off + k * 2 + 1, none⟩ = some (.slice la ls.length lc)) := fun W hw => ⟨(hw.cell (p := ⟨b, _, none⟩) hb).trans c1, (hw.cell (p := ⟨b, _, none⟩) hb).trans c2⟩
      clear hb hx c1 c2 hnl hrl
      go_wp2
      have B0 : Hid (Below w.heap.size w wr.drew) := below_on HB.out (Nat.le_refl _) (Below.refl _ _).drew
      have HO0 : Hid (OwnG wr.drew w.heap.size v us) := HO.out.still (Below.refl _ _).drew
      refine wp_region_noPanic ?_
      refine ord_region (S := fun W => W.cell? ⟨b, off + k * 2, none⟩ = some (.int .i64 id) ∧ W.cell? ⟨b, off + k * 2 + 1, none⟩ = some (.slice la ls.length lc)) (by kernel_rfl) (HSQ.out _ B0.out) ?_
      intro hS0
      have HC0 : Hid (CN wr.drew v us (l.take k)) := ⟨HC.out.1, fun i u p hu hp => by
        obtain ⟨a1, la', c1, a2, a3, a4, a5⟩ := HC.out.2 i u p hu hp
        exact ⟨a1, la', c1, a2, a3, a4.imp _root_.id (fun ⟨g, e, h5, h6⟩ => ⟨g, e, h5, Nat.lt_of_lt_of_le h6 (Below.refl wr.heap.size wr).drew.size⟩), a5.below (Below.refl _ _).drew⟩⟩
      clear HB HO HC
      generalize wr.drew = x0 at *
      refine ord_take (i := 0) (d := some 11) (v := ?v0x1) rfl rfl (by kernel_rfl) (by kernel_rfl) (by kernel_rfl) (fun _ _ _ h => h) (by rfl) ?hy0x1 (by assumption) ?rest0x1
      case hy0x1 => (intro w' hSw; (try dsimp only at hSw); go_simp; try with_reducible rfl)
      case rest0x1 =>
      (try simp only [Act.put]); (repeat first | simp only [List.setIfInBounds_toArray] | simp only [List.set_cons_zero] | simp only [List.set_cons_succ])
      refine ord_take (i := 1) (d := some 12) (v := ?v1x2) rfl rfl (by kernel_rfl) (by kernel_rfl) (by kernel_rfl) (fun _ _ _ h => h) (by rfl) ?hy1x2 (by assumption) ?rest1x2
      case hy1x2 => (intro w' hSw; (try dsimp only at hSw); go_simp; try with_reducible rfl)
      case rest1x2 =>
      (try simp only [Act.put]); (repeat first | simp only [List.setIfInBounds_toArray] | simp only [List.set_cons_zero] | simp only [List.set_cons_succ])
      refine ord_take (i := 2) (d := some 13) (v := ?v2x3) rfl rfl (by kernel_rfl) (by kernel_rfl) (by kernel_rfl) (fun _ _ _ h => h) (by rfl) ?hy2x3 (by assumption) ?rest2x3
      case hy2x3 => (intro w' hSw; (try dsimp only at hSw); go_simp; try with_reducible rfl)
      case rest2x3 =>
      (try simp only [Act.put]); (repeat first | simp only [List.setIfInBounds_toArray] | simp only [List.set_cons_zero] | simp only [List.set_cons_succ])
      refine ord_take (i := 3) (d := some 14) (v := ?v3x4) rfl rfl (by kernel_rfl) (by kernel_rfl) (by kernel_rfl) (fun _ _ _ h => h) (by rfl) ?hy3x4 (by assumption) ?rest3x4
      case hy3x4 => (intro w' hSw; (try dsimp only at hSw); go_simp; try with_reducible rfl)
      case rest3x4 =>
      (try simp only [Act.put]); (repeat first | simp only [List.setIfInBounds_toArray] | simp only [List.set_cons_zero] | simp only [List.set_cons_succ])
      refine ord_take (i := 4) (d := some 15) (v := ?v4x5) rfl rfl (by kernel_rfl) (by kernel_rfl) (by kernel_rfl) (fun _ _ _ h => h) (by rfl) ?hy4x5 (by assumption) ?rest4x5
      case hy4x5 => (intro w' hSw; (try dsimp only at hSw); go_simp; try with_reducible rfl)
      case rest4x5 =>
      (try simp only [Act.put]); (repeat first | simp only [List.setIfInBounds_toArray] | simp only [List.set_cons_zero] | simp only [List.set_cons_succ])
      refine ord_take (i := 5) (d := some 16) (v := ?v5x6) rfl rfl (by kernel_rfl) (by kernel_rfl) (by kernel_rfl) (fun _ _ _ h => h) (by rfl) ?hy5x6 (by assumption) ?rest5x6
      case hy5x6 => (intro w' hSw; (try dsimp only at hSw); go_simp; try with_reducible rfl)
      case rest5x6 =>
      (try simp only [Act.put]); (repeat first | simp only [List.setIfInBounds_toArray] | simp only [List.set_cons_zero] | simp only [List.set_cons_succ])
      refine ord_take (i := 7) (d := some 18) (v := ?v7x7) rfl rfl (by kernel_rfl) (by kernel_rfl) (by kernel_rfl) (fun _ _ _ h => h) (by rfl) ?hy7x7 (by assumption) ?rest7x7
      case hy7x7 => (intro w' hSw; (try dsimp only at hSw); go_simp; try with_reducible rfl)
      case rest7x7 =>
      (try simp only [Act.put]); (repeat first | simp only [List.setIfInBounds_toArray] | simp only [List.set_cons_zero] | simp only [List.set_cons_succ])
      refine ord_take (i := 8) (d := some 19) (v := ?v8x8) rfl rfl (by kernel_rfl) (by kernel_rfl) (by kernel_rfl) (fun _ _ _ h => h) (by rfl) ?hy8x8 (by assumption) ?rest8x8
      case hy8x8 => (intro w' hSw; (try dsimp only at hSw); go_simp; try with_reducible rfl)
      case rest8x8 =>
      (try simp only [Act.put]); (repeat first | simp only [List.setIfInBounds_toArray] | simp only [List.set_cons_zero] | simp only [List.set_cons_succ])
      refine ord_take (i := 9) (d := some 20) (v := ?v9x9) rfl rfl (by kernel_rfl) (by kernel_rfl) (by kernel_rfl) (fun _ _ _ h => h) (by rfl) ?hy9x9 (by assumption) ?rest9x9
      case hy9x9 => (intro w' hSw; (try dsimp only at hSw); go_simp; try with_reducible rfl)
      case rest9x9 =>
      (try simp only [Act.put]); (repeat first | simp only [List.setIfInBounds_toArray] | simp only [List.set_cons_zero] | simp only [List.set_cons_succ])
      refine ord_take (i := 10) (d := some 21) (v := ?v10x10) rfl rfl (by kernel_rfl) (by kernel_rfl) (by kernel_rfl) (fun _ _ _ h => h) (by rfl) ?hy10x10 (by assumption) ?rest10x10
      case hy10x10 => (intro w' hSw; (try dsimp only at hSw); go_simp; try with_reducible rfl)
      case rest10x10 =>
      (try simp only [Act.put]); (repeat first | simp only [List.setIfInBounds_toArray] | simp only [List.set_cons_zero] | simp only [List.set_cons_succ])
      refine ord_take (i := 11) (d := some 22) (v := ?v11x11) rfl rfl (by kernel_rfl) (by kernel_rfl) (by kernel_rfl) (fun _ _ _ h => h) (by rfl) ?hy11x11 (by assumption) ?rest11x11
      case hy11x11 => (intro w' hSw; (try dsimp only at hSw); go_simp; try with_reducible rfl)
      case rest11x11 =>
      (try simp only [Act.put]); (repeat first | simp only [List.setIfInBounds_toArray] | simp only [List.set_cons_zero] | simp only [List.set_cons_succ])
      refine ord_only (i := 6) rfl (by kernel_rfl) (by rfl) ?_
      refine ord_value (d := some 17) (v := .slice (some ⟨x0.heap.size, 0, none⟩) 0 0) (w' := x0.alloc (.cells #[] 54)) rfl (by go_simp; try with_reducible rfl) ?_
      have B1 : Hid (Below w.heap.size w (x0.alloc (.cells #[] 54))) := below_on B0.out (Nat.le_refl _) (below_box _ _)
      refine ⟨HSQ.out _ B1.out, ?_⟩
      have hS1 := HSQ.out _ B1.out
      (try simp only [Act.put]); (repeat first | simp only [List.setIfInBounds_toArray] | simp only [List.set_cons_zero] | simp only [List.set_cons_succ])
      refine ord_only (i := 12) rfl (by kernel_rfl) (by rfl) ?_
      refine wp_append_all _ (.tmp 17) (.tmp 22) 32 rfl x0.heap.size 54 j0 _ 2 16 Tryz.underlying32 HJ.out.1 HJ.out.2.1 HJ.out.2.2.1 HJ.out.2.2.2 rfl (by omega) _ 0 [] (by rfl) (World.ownsRow_made x0 #[] 0 (Nat.le_refl _) (Nat.zero_le _) (by simp)) la ls.length lc (flatL ls) (by rfl) (fun e => ⟨by rw [(HL.out.1 e).1]; rfl, (HL.out.1 e).2⟩) (flatL_len ls) (HL.out.2.below B1.out).news (flatL_one ls) (by unfold maxLen; omega) (by omega) (by simp) ?_
      intro v1 w1 own1 grow1
      have ho1 : OwnL w1 x0.heap.size v1 ls := by unfold OwnL; simpa using own1
      have B2 : Hid (Below x0.heap.size x0 w1) := ((Below.refl _ x0).alloc (Nat.le_refl _) (.cells #[] 54)).grown grow1 (by simp) (by intro k hk; simp [Value.ownBlock] at hk; omega)
      have B3 : Hid (Below w.heap.size w w1) := below_on B0.out (Nat.le_refl _) B2.out
      obtain ⟨la1, lc1, rfl, hla1, hrow1⟩ := ho1.row
      have hfit1 := ho1.fits rfl
      have HLA : Hid ((la1 = none ∨ ∃ g, la1 = some ⟨g, 0, none⟩ ∧ x0.heap.size ≤ g ∧ g < w1.heap.size) ∧ ls.length ≤ lc1 ∧ RowL w1 la1 ls) := by
        refine ⟨?_, hfit1, hrow1⟩
        rcases ho1.form with ⟨e, _⟩ | ⟨g, c9, e, h5, h6⟩
        · exact .inl (Value.slice.inj e).1
        · exact .inr ⟨g, (Value.slice.inj e).1, h5, h6⟩
      clear own1 grow1 ho1 hla1 hrow1 hfit1
      refine ⟨HSQ.out _ B3.out, ?_⟩
      have hS2 := HSQ.out _ B3.out
      (try simp only [Act.put]); (repeat first | simp only [List.setIfInBounds_toArray] | simp only [List.set_cons_zero] | simp only [List.set_cons_succ])
      refine ord_take (i := 13) (d := some 24) (v := ?v13x12) rfl rfl (by kernel_rfl) (by kernel_rfl) (by kernel_rfl) (fun _ _ _ h => h) (by rfl) ?hy13x12 (by assumption) ?rest13x12
      case hy13x12 => (intro w' hSw; (try dsimp only at hSw); go_simp; try with_reducible rfl)
      case rest13x12 =>
      (try simp only [Act.put]); (repeat first | simp only [List.setIfInBounds_toArray] | simp only [List.set_cons_zero] | simp only [List.set_cons_succ])
      refine ord_only (i := 14) rfl (by kernel_rfl) (by rfl) ?_
      refine ord_value (d := some 25) (v := .slice (some ⟨w1.heap.size, 0, none⟩) 1 1) (w' := w1.alloc (.cells #[.int .i64 id, .slice la1 ls.length lc1] 34)) rfl (by go_simp; try with_reducible rfl) ?_
      have B4 : Hid (Below w.heap.size w (w1.alloc (.cells #[.int .i64 id, .slice la1 ls.length lc1] 34))) := below_on B3.out (Nat.le_refl _) (below_box _ _)
      refine ⟨HSQ.out _ B4.out, ?_⟩
      have hS3 := HSQ.out _ B4.out
      (try simp only [Act.put]); (repeat first | simp only [List.setIfInBounds_toArray] | simp only [List.set_cons_zero] | simp only [List.set_cons_succ])
      refine ord_only (i := 15) rfl (by kernel_rfl) (by rfl) ?_
      refine wp_append_lies _ (.tmp 11) (.tmp 25) 31 rfl w.heap.size 34 i0 _ 2 32 Tryz.underlying31 HI.out.1 HI.out.2.1 HI.out.2.2.1 HI.out.2.2.2 rfl (by omega) v us.length (flatP us) (by rfl) (World.ownsRow.alloc (HO0.out.still B2.out) _) ⟨w1.heap.size, 0, none⟩ 1 1 [.int .i64 id, .slice la1 ls.length lc1] (by rfl) rfl (cellT_new w1 _ _ _) (by intro u hu; simp at hu; rcases hu with rfl | rfl <;> rfl) (by omega) (by unfold maxLen; have := HUL.out; omega) (by have := HUL.out; omega) (by have := B4.out.size; exact this) (w1.heap.size + 1) (by simp) ?_
      intro g1 k1 w6 hown hgrow hat _
      have ST := CN.step B3.out HO0.out HC0.out B2.out HLA.out.1 HLA.out.2.1 HLA.out.2.2 hown hgrow hat
      rw [← Lg.take_snoc l k _ HX.out] at ST
      have HST : Hid (_ ∧ _ ∧ _) := ST
      clear hown hgrow hat ST
      refine ⟨HSQ.out _ HST.out.2.2, ?_⟩
      have hS6 := HSQ.out _ HST.out.2.2
      change wpAnyH _ _ _ _ _ _ _ (Act.put _ (some 26) _) _
      (try simp only [Act.put]); (repeat first | simp only [List.setIfInBounds_toArray] | simp only [List.set_cons_zero] | simp only [List.set_cons_succ])
      refine ord_only (i := 16) rfl (by kernel_rfl) (by rfl) ?_
      refine ord_value (d := some 3) (v := .slice (some ⟨g1, 0, none⟩) (us.length + 1) k1) (w' := w6) rfl (by go_simp; try with_reducible rfl) ?_
      refine ⟨hS6, ?_⟩
      (try simp only [Act.put]); (repeat first | simp only [List.setIfInBounds_toArray] | simp only [List.set_cons_zero] | simp only [List.set_cons_succ])
      refine wpAnyH_done (by kernel_rfl) ?_ _
      refine NoPanic.normal ?_
      clear hS0 hS1 hS2 hS3 hS6
      go_wp2
      go_roundw
      case rel => exact ⟨k + 1, _, _, by omega, by go_num, rfl, HST.out.1, HST.out.2.1, HST.out.2.2⟩
      case measure => simp [intOf]; omega
    · obtain rfl : k = n := by omega
      have HTK : Hid (l.take k = l) := by show _ = _; rw [List.take_of_length_le (by rw [HN.out]; exact Nat.le_refl _)]
      rw [HTK.out] at HC
      obtain ⟨ra, rc, rfl, h1, h2, h3⟩ := HO.out.row HC.out.rd
      have HR : Hid (l.length ≤ rc ∧ (ra = none → l = [] ∧ rc = 0) ∧ RowG wr ra l) := ⟨h1, h2, h3⟩
      clear h1 h2 h3
      go_wp2
      go_ret
      refine ⟨ra, rc, ?_, by have := HR.out.1; rw [HN.out] at this; exact this, HR.out.2.1, HR.out.2.2, HB.out⟩
      show Ending.returned (.slice ra l.length rc) = .returned (.slice ra k rc)
      rw [HN.out]
end Go.Proofs.YtandlmnbnjkklaaGreatDoor
