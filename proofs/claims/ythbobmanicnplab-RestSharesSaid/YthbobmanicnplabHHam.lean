/- The walk of package share's Hamilton. Made by mk_hham.py. -/
import Derived.Test.YthbobmanicnplabHCmp
import Derived.Laws.EntriesVeiled
namespace Go.Proofs.Ythbobmanicnplab
open Go.RowKit Go.BigFrame Go.Sort

theorem hcheck_at (T : Int) (l : List Int) (a : Option Addr) (cap : Nat) (c : Int) (w : World) (hl : l.length ≤ maxLen) (hc : Shr.code T l = c) (hr : Row1 w a l) :
    Calls Try.prog 8 #[.int .i64 T, .slice a l.length cap] w fun e w' => e = .returned (.int .i64 c) ∧ w' = w := by
  subst hc; exact hcheck_any T l a cap w hl hr
set_option maxHeartbeats 1000000 in
theorem ham_no (T : Int) (l : List Int) (a : Option Addr) (cap : Nat) (c : Int) (w : World) (hl : l.length ≤ maxLen) (hc : Shr.code T l = c) (hn : c ≠ 0) (hr : Row1 w a l) :
    Calls Try.prog 4 #[.int .i64 T, .slice a l.length cap] w fun e w' => e = .returned (.tuple #[.slice none 0 0, .int .i64 c]) ∧ Below w.heap.size w w' := by
  have hb := Shr.code_bd T l
  rw [hc] at hb
  have HC : Hid (Shr.code T l = c) := hc
  have hc0 : 0 < c := by omega
  have B2 : Hid (Below w.heap.size w ((w.alloc (.cells #[.int .i64 T] 3)).alloc (.cells #[.slice a l.length cap] 22))) := below_on (below_box w _) (Nat.le_refl _) (below_box _ _)
  have HR : Hid (Row1 ((w.alloc (.cells #[.int .i64 T] 3)).alloc (.cells #[.slice a l.length cap] 22)) a l) := hr.below B2.out
  clear hc hn hr
  go_enter Try.func4, Try.ntmps4
  go_wp2_with fail
  refine (hcheck_at T l _ _ _ _ hl HC.out HR.out).mono ?_; rintro e w' ⟨rfl, rfl⟩
  go_wp2
  all_goals first | (exfalso; rename_i hq; simp at hq; omega) | skip
  go_ret2
  exact ⟨rfl, B2.out⟩
theorem RowI.setOther {w : World} {b c n : Nat} {F : Nat → Int} (h : RowI w b n F) (hne : b ≠ c) (i : Nat) (v : Value) : RowI (w.setCell ⟨c, i, none⟩ v) b n F := World.rowIs.setOther (a := ⟨c, i, none⟩) h hne v
theorem sumRow_any (g n cap : Nat) (F : Nat → Int) (w : World) (hn : n ≤ 64) (hF : ∀ i, 0 ≤ F i ∧ F i ≤ 2199023255552) (hr : RowI w g n F) :
    Calls Try.prog 9 #[.slice (some ⟨g, 0, none⟩) n cap] w fun e w' => e = .returned (.int .i64 (Shr.sm n F)) ∧ Below w.heap.size w w' := by
  have e : ((List.range n).map F).length = n := by simp
  have h := sumOf_any ((List.range n).map F) (some ⟨g, 0, none⟩) cap w (by rw [e]; exact hn) (fun i => by
    by_cases hi : i < n
    · rw [Shr.at_map n F i hi]; exact hF i
    · unfold Shr.at'
      rw [List.getD_eq_getElem?_getD, List.getElem?_eq_none (by rw [e]; omega)]; decide) hr.row1
  rw [e] at h
  exact h.mono fun _ _ h => ⟨h.1, h.2 ▸ Below.refl _ _⟩
/-- the world behind the boxes and the two rows -/
abbrev hamW (w : World) (T : Int) (l : List Int) (a : Option Addr) (cap : Nat) : World :=
  ((((((w.alloc (.cells #[.int .i64 T] 3)).alloc (.cells #[.slice a l.length cap] 22)).alloc (.cells #[.int .i64 l.sum] 3)).alloc
    (.cells #[.func (.func 10) #[] #[.pointer (some ⟨w.heap.size, 0, none⟩), .pointer (some ⟨w.heap.size + 1, 0, none⟩), .pointer (some ⟨w.heap.size + 1 + 1, 0, none⟩)]] 31)).alloc
    (.cells (madeCells #[.int .i64 0] l.length) 3)).alloc (.cells (madeCells #[.int .i64 0] l.length) 3)).drew
theorem box_kept {w W W' : World} {v : Value} {t : TypeId} {n : Nat} (e : W = w.alloc (.cells #[v] t)) (hn : w.heap.size = n) (hb : Below W.heap.size W W') : W'.cell? ⟨n, 0, none⟩ = some v := by
  subst e hn
  rw [hb.cell (p := ⟨w.heap.size, 0, none⟩) (by simp)]; simp
theorem ham_letters (w W1 W2 W3 W4 W5 W6 W7 : World) (T : Int) (l : List Int) (a : Option Addr) (cap : Nat) (hr : Row1 w a l) (e1 : W1 = w.alloc (.cells #[.int .i64 T] 3)) (e2 : W2 = W1.alloc (.cells #[.slice a l.length cap] 22)) (e3 : W3 = W2.alloc (.cells #[.int .i64 l.sum] 3))
    (e4 : W4 = W3.alloc (.cells #[.func (.func 10) #[] #[.pointer (some ⟨w.heap.size, 0, none⟩), .pointer (some ⟨w.heap.size + 1, 0, none⟩), .pointer (some ⟨w.heap.size + 1 + 1, 0, none⟩)]] 31))
    (e5 : W5 = W4.alloc (.cells (madeCells #[.int .i64 0] l.length) 3)) (e6 : W6 = W5.alloc (.cells (madeCells #[.int .i64 0] l.length) 3)) (e7 : W7 = W6.drew) :
    HBx W7 (w.heap.size + 1 + 1 + 1 + 1) w.heap.size (w.heap.size + 1) (w.heap.size + 1 + 1) (w.heap.size + 1 + 1 + 1) T l a cap ∧
    RowI W7 (w.heap.size + 1 + 1 + 1 + 1) l.length (fun _ => 0) ∧ RowI W7 (w.heap.size + 1 + 1 + 1 + 1 + 1) l.length (fun _ => 0) ∧ Below w.heap.size w W7 := by
  have s1 : W1.heap.size = w.heap.size + 1 := by rw [e1]; simp
  have s2 : W2.heap.size = w.heap.size + 1 + 1 := by rw [e2]; simp [s1]
  have s3 : W3.heap.size = w.heap.size + 1 + 1 + 1 := by rw [e3]; simp [s2]
  have s4 : W4.heap.size = w.heap.size + 1 + 1 + 1 + 1 := by rw [e4]; simp [s3]
  have s5 : W5.heap.size = w.heap.size + 1 + 1 + 1 + 1 + 1 := by rw [e5]; simp [s4]
  have b7 : Below W6.heap.size W6 W7 := by rw [e7]; exact below_drewN (Below.refl _ _) 1
  have r5 : RowI W6 W5.heap.size l.length (fun _ => 0) := by rw [e6]; exact RowI.made W5 l.length
  have r4 : RowI W5 W4.heap.size l.length (fun _ => 0) := by rw [e5]; exact RowI.made W4 l.length
  have b6 : Below W5.heap.size W5 W7 := below_on (by rw [e6]; exact below_box _ _) (Nat.le_refl _) b7
  have b5 : Below W4.heap.size W4 W7 := below_on (by rw [e5]; exact below_box _ _) (Nat.le_refl _) b6
  have b4 : Below W3.heap.size W3 W7 := below_on (by rw [e4]; exact below_box _ _) (Nat.le_refl _) b5
  have b3 : Below W2.heap.size W2 W7 := below_on (by rw [e3]; exact below_box _ _) (Nat.le_refl _) b4
  have b2 : Below W1.heap.size W1 W7 := below_on (by rw [e2]; exact below_box _ _) (Nat.le_refl _) b3
  have b1 : Below w.heap.size w W7 := below_on (by rw [e1]; exact below_box _ _) (Nat.le_refl _) b2
  have r4' := r4.below b6
  have r5' := r5.below b7
  rw [s4] at r4'
  rw [s5] at r5'
  refine ⟨⟨by have := b5.size; omega, by omega, by omega, by omega, by omega, ?_, box_kept e1 rfl b2, box_kept e2 s1 b3, box_kept e3 s2 b4, box_kept e4 s3 b5, hr.below b1⟩, r4', r5', b1⟩
  intro p hp
  rcases hr with hr | ⟨b, off, rfl, hlt, _⟩
  · exact .inr hr
  · cases hp; left; show b < _; omega
theorem ham_world (w : World) (T : Int) (l : List Int) (a : Option Addr) (cap : Nat) (hr : Row1 w a l) :
    HBx (hamW w T l a cap) (w.heap.size + 1 + 1 + 1 + 1) w.heap.size (w.heap.size + 1) (w.heap.size + 1 + 1) (w.heap.size + 1 + 1 + 1) T l a cap ∧
    RowI (hamW w T l a cap) (w.heap.size + 1 + 1 + 1 + 1) l.length (fun _ => 0) ∧ RowI (hamW w T l a cap) (w.heap.size + 1 + 1 + 1 + 1 + 1) l.length (fun _ => 0) ∧ Below w.heap.size w (hamW w T l a cap) :=
  ham_letters w _ _ _ _ _ _ _ T l a cap hr rfl rfl rfl rfl rfl rfl rfl
/-- what has been handed out of what was left, behind j of them -/
def hamJ (T : Int) (l : List Int) (j i : Nat) : Int := Shr.q T l i + if Shr.ahead T l i < j then 1 else 0
theorem hamJ_zero (T : Int) (l : List Int) (i : Nat) : hamJ T l 0 i = Shr.q T l i := by unfold hamJ; rw [if_neg (by omega), Int.add_zero]
theorem hamJ_end (T : Int) (l : List Int) (L : Nat) (h : Shr.left T l = L) (i : Nat) : hamJ T l L i = Shr.hamAt T l i := by
  unfold hamJ Shr.hamAt
  rw [h]
  by_cases c : Shr.ahead T l i < L
  · rw [if_pos c, if_pos (by omega)]
  · rw [if_neg c, if_neg (by omega)]
theorem hamJ_step (T : Int) (l : List Int) (G : Nat → Int) (hs : Srt.Sorted (fun x y => Shr.ltb T l x y = true) G 0 l.length) (hm : Srt.Same G (fun k => (k : Int)) 0 l.length) (j i : Nat) (hj : j < l.length) (hi : G j = (i : Int)) :
    hamJ T l j i = Shr.q T l i ∧ ∀ k, k < l.length → (if k = i then Shr.q T l i + 1 else hamJ T l j k) = hamJ T l (j + 1) k := by
  have ai : Shr.ahead T l i = j := by
    have := Shr.rank (Shr.ord T l) G l.length hs hm j hj
    rw [hi] at this
    exact this
  refine ⟨by unfold hamJ; rw [if_neg (by omega), Int.add_zero], fun k hk => ?_⟩
  by_cases c : k = i
  · subst c
    rw [if_pos rfl]
    unfold hamJ
    rw [if_pos (by omega)]
  · rw [if_neg c]
    have hne : Shr.ahead T l k ≠ j := by
      intro e
      obtain ⟨j', _, h2, h3⟩ := hm.2 k (Nat.zero_le _) hk
      have h3' : (k : Int) = G j' := h3
      have := Shr.rank (Shr.ord T l) G l.length hs hm j' h2
      rw [← h3'] at this
      have e' : j' = j := this.symm.trans e
      rw [e'] at h3'
      exact c (by have := h3'.trans hi; omega)
    unfold hamJ
    by_cases d : Shr.ahead T l k < j
    · rw [if_pos d, if_pos (by omega)]
    · rw [if_neg d, if_neg (by omega)]
set_option maxHeartbeats 8000000 in
set_option maxRecDepth 100000 in
theorem ham_yes (T : Int) (l : List Int) (a : Option Addr) (cap : Nat) (w : World) (ok : Shr.Ok T l) (hc : Shr.code T l = 0) (hr : Row1 w a l) :
    Calls Try.prog 4 #[.int .i64 T, .slice a l.length cap] w fun e w' => ∃ v, e = .returned (.tuple #[v, .int .i64 0]) ∧ OutI w w' v ((List.range l.length).map (Shr.hamAt T l)) ∧ Below w.heap.size w w' := by
  have hl := ok.len
  have hn0 := ok.n0
  have HC : Hid (Shr.code T l = 0) := hc
  have HOK : Hid (Shr.Ok T l) := ok
  have B2 : Hid (Below w.heap.size w ((w.alloc (.cells #[.int .i64 T] 3)).alloc (.cells #[.slice a l.length cap] 22))) := below_on (below_box w _) (Nat.le_refl _) (below_box _ _)
  have HR : Hid (Row1 ((w.alloc (.cells #[.int .i64 T] 3)).alloc (.cells #[.slice a l.length cap] 22)) a l) := hr.below B2.out
  have HXS : Hid (∀ i, 0 ≤ Shr.at' l i ∧ Shr.at' l i ≤ 2199023255552) := fun i => by have := ok.get i; omega
  have hmk := make_ints l.length (by omega)
  have hml : l.length ≤ maxLen := by unfold maxLen; omega
  have hs0 := ok.sum
  have hs1 := ok.sum1
  have HW : Hid (_) := ham_world w T l a cap hr
  obtain ⟨L, hL⟩ := Int.eq_ofNat_of_zero_le ok.left_pos.1
  have hLn : L ≤ l.length := by have := ok.left_n; omega
  have HL : Hid (Shr.left T l = (L : Nat)) := hL
  have HLT : Hid (T - Shr.sm l.length (Shr.q T l) = (L : Nat)) := hL
  clear hc ok hL
  go_enter Try.func4, Try.ntmps4
  go_wp2_with fail
  refine (hcheck_at T l _ _ _ _ hml HC.out HR.out).mono ?_; rintro e w' ⟨rfl, rfl⟩
  go_wp2_with fail
  refine (sumOf_any l _ _ _ (by omega) HXS.out HR.out).mono ?_; rintro e w' ⟨rfl, rfl⟩
  go_wp2_with fail
  go_big_region
  · obtain ⟨hx, r4, r5, bw⟩ := HW.out
    clear HW HR B2 hmk HXS
    change HBx (hamW w T l a cap) _ _ _ _ _ T l a cap at hx
    show Exit.then _ _ _ _ (hamW w T l a cap)
    have hsz : w.heap.size ≤ w.heap.size + 1 + 1 + 1 + 1 := by omega
    generalize hamW w T l a cap = W6 at *
    generalize w.heap.size + 1 + 1 + 1 + 1 = g4 at *
    have h45 : g4 ≤ g4 + 1 := by omega
    have hne : g4 ≠ g4 + 1 := by omega
    generalize g4 + 1 = g5 at *
    generalize w.heap.size + 1 + 1 + 1 = p3 at *
    generalize w.heap.size + 1 + 1 = p2 at *
    generalize w.heap.size + 1 = p1 at *
    obtain ⟨p0, hp0⟩ : ∃ p0, p0 = w.heap.size := ⟨_, rfl⟩
    have hne' : g4 ≠ g5 := by omega
    have hne2 : g5 ≠ g4 := by omega
    have hgo : g4 ≤ g4 := by omega
    have hgr : g4 ≤ g5 := by omega
    have ro := r4
    have rr := r5
    have HX : Hid (HBx W6 g4 w.heap.size p1 p2 p3 T l a cap) := hx
    have HB6 : Hid (Below w.heap.size w W6 ∧ w.heap.size ≤ g4) := ⟨bw, hsz⟩
    have hc1 := hx.c1
    clear r4 r5 hx bw hp0
    go_wp2
    clear hc1
    go_loopw [11, 12, 32] (fun _ _ cv wr => ∃ k : Nat, k ≤ l.length ∧ cv = .int .i64 k ∧ RowI wr g4 l.length (fun i => if i < k then Shr.q T l i else 0) ∧ RowI wr g5 l.length (fun i => if i < k then (i : Int) else 0) ∧ Below g4 W6 wr) (fun _ _ cv _ => l.length - (intOf cv).toNat)
    case atStart => exact ⟨0, Nat.zero_le _, rfl, ro.congr (fun i _ => by simp), rr.congr (fun i _ => by simp), Below.refl _ _⟩
    case round =>
      clear ro rr
      obtain ⟨k, hk, rfl, ro, rr, Bw⟩ := hrel
      have hx := HX.out.below Bw
      by_cases hlt : k < l.length
      · obtain ⟨b, off, rfl, -, -, c4⟩ := hx.row.get hlt
        have c0 := hx.c0
        have c2 := hx.c2
        have co := ro.cell hlt
        have fo := ro.frozen k
        have cr := rr.cell hlt
        have fr := rr.frozen k
        have hp := HOK.out.prod k
        have hq := HOK.out.qr k
        have hq2 := HOK.out.q_le k
        have HQ : Hid (T * Shr.at' l k / l.sum = Shr.q T l k) := rfl
        have hp0 := hp.1
        have hp1 := hp.2
        have HRO : Hid (RowI wr g4 l.length (fun i => if i < k then Shr.q T l i else 0)) := ro
        have HRR : Hid (RowI wr g5 l.length (fun i => if i < k then (i : Int) else 0)) := rr
        have HBw : Hid (Below g4 W6 wr) := Bw
        rw [if_neg (Nat.lt_irrefl k)] at co cr
        have kz : (k : Int) < (l.length : Int) := by omega
        clear hp hq hq2 ro rr Bw hx
        generalize Shr.at' l k = x at *
        generalize hS : l.sum = S at *
        clear hS
        go_wp2
        go_roundw
        case rel =>
          refine ⟨k + 1, by omega, by go_num, ?_, ?_, below_set (below_set HBw.out hgo _ _) hgr _ _⟩
          · refine ((HRO.out.set k _).setOther hne' k _).congr (fun i _ => ?_)
            by_cases c : i = k
            · subst c; rw [if_pos rfl, if_pos (by omega)]; exact HQ.out
            · rw [if_neg c]
              by_cases c2 : i < k
              · rw [if_pos c2, if_pos (by omega)]
              · rw [if_neg c2, if_neg (by omega)]
          · refine ((HRR.out.setOther hne2 k _).set k _).congr (fun i _ => ?_)
            by_cases c : i = k
            · subst c; rw [if_pos rfl, if_pos (by omega)]
            · rw [if_neg c]
              by_cases c2 : i < k
              · rw [if_pos c2, if_pos (by omega)]
              · rw [if_neg c2, if_neg (by omega)]
        case measure => simp [intOf]; omega
      · obtain rfl : k = l.length := by omega
        have ro2 : RowI wr g4 l.length (Shr.q T l) := ro.congr (fun i hi => if_pos hi)
        have rr2 : RowI wr g5 l.length (fun i => (i : Int)) := rr.congr (fun i hi => if_pos hi)
        have HS := sortStable_any 12 #[.pointer (some ⟨p3, 0, none⟩)] g4 wr l.length (ham_cmp wr g4 w.heap.size p1 p2 p3 T l a cap HOK.out hx) (Shr.ord T l) g5 l.length l.length (fun i => (i : Int)) wr (by omega) hgr (Below.refl _ _) rr2 (fun i j h1 h2 => by omega) (fun i hi => by omega)
        have HO : Hid (RowI wr g4 l.length (Shr.q T l)) := ro2
        have HBw : Hid (Below g4 W6 wr) := Bw
        have HHX : Hid (HBx wr g4 w.heap.size p1 p2 p3 T l a cap) := hx
        clear ro rr ro2 rr2 Bw hx
        go_wp2_with fail
        refine HS.mono ?_
        rintro e w7 ⟨rfl, G, RG, SG, MG, KG⟩
        have RO7 := HO.out.grown KG hne'
        have B7 := below_grown HBw.out (Nat.le_trans HX.out.hB HBw.out.size) hgr KG
        have hx7 := HX.out.below B7
        have hc0 := cell_regrown hx7.c0
        have HSG : Hid (Srt.Sorted (fun x y => Shr.ltb T l x y = true) G 0 l.length ∧ Srt.Same G (fun k => (k : Int)) 0 l.length) := ⟨SG, MG⟩
        have HRG : Hid (RowI w7 g5 l.length G) := RG
        have HRO : Hid (RowI w7 g4 l.length (Shr.q T l)) := RO7
        have HB7 : Hid (Below g4 W6 w7 ∧ g4 ≤ W6.heap.size) := ⟨B7, HX.out.hB⟩
        have HSUM : Hid (∀ d os, Calls Try.prog 9 #[.slice (some ⟨g4, 0, none⟩) l.length l.length] (grow (redrawn w7 d) os) fun e w' => e = .returned (.int .i64 (Shr.sm l.length (Shr.q T l))) ∧ Below (grow (redrawn w7 d) os).heap.size (grow (redrawn w7 d) os) w') := fun d os =>
          sumRow_any g4 l.length l.length (Shr.q T l) _ (by omega) (fun i => ⟨(HOK.out.qr i).2.2.2, by have := HOK.out.q_le i; omega⟩) (RO7.below (below_regrown w7 d os))
        clear HS RG RO7 B7 SG MG KG HO HBw HHX hx7
        have hq0 : 0 ≤ Shr.sm l.length (Shr.q T l) := Shr.sm_nonneg _ _ (fun i _ => (HOK.out.qr i).2.2.2)
        have ht0 := HOK.out.t0
        have ht1 := HOK.out.t1
        have hqs : Shr.sm l.length (Shr.q T l) ≤ T := by have := HLT.out; omega
        have HLT' := HLT.out
        have Lz : (L : Int) ≤ (l.length : Int) := by omega
        generalize Shr.sm l.length (Shr.q T l) = Q at *
        have wz : IntKind.i64.wrap (L : Int) = (L : Int) := by rw [IntKind.wrap_i64]; omega
        have wz2 : IntKind.i64.wrap (T - Q) = (L : Int) := by rw [HLT', wz]
        go_wp2_with fail
        refine wp_region_quiet_below (by kernel_rfl) (by kernel_rfl) ?_
        repeat go_big_quiet_step ((go_at_call 9; exact Calls.regrown_of (HSUM.out _ _)))
        refine wpQuiet_nil ?_
        intro _ hw'
        obtain ⟨⟨dq, osq⟩, hw''⟩ := hw'
        subst hw''
        have B8 := below_regrown w7 dq osq
        generalize grow (redrawn w7 dq) osq = w8 at *
        have HRG8 : Hid (RowI w8 g5 l.length G) := HRG.out.below B8
        have ro8 : RowI w8 g4 l.length (hamJ T l 0) := (HRO.out.below B8).congr (fun i _ => (hamJ_zero T l i).symm)
        have HB8 : Hid (Below g4 W6 w8) := below_on HB7.out.1 HB7.out.2 B8
        clear HRG HRO B8 hc0 HSUM HB7
        go_wp2
        go_loopw [14, 60] (fun _ cv wr2 => ∃ j : Nat, j ≤ L ∧ cv = .int .i64 j ∧ RowI wr2 g4 l.length (hamJ T l j) ∧ w8.grownBy wr2 (some g4)) (fun _ cv _ => L - (intOf cv).toNat)
        case atStart => exact ⟨0, Nat.zero_le _, rfl, ro8, World.grownBy.refl _ _⟩
        case round =>
          clear ro8
          obtain ⟨j, hj, rfl, ro, K⟩ := hrel
          by_cases hlt2 : j < L
          · obtain ⟨i, -, hi, hGi⟩ := HSG.out.2.1 j (Nat.zero_le _) (by omega)
            have cg := (HRG8.out.grown K hne2).cell (i := j) (by omega)
            rw [hGi] at cg
            obtain ⟨st1, st2⟩ := hamJ_step T l G HSG.out.1 HSG.out.2 j i (by omega) hGi
            have co := ro.cell hi
            rw [st1] at co
            have fo := ro.frozen i
            have hq := HOK.out.qr i
            have hq2 := HOK.out.q_le i
            have hq1 := hq.2.2.2
            have HST : Hid (∀ k, k < l.length → (if k = i then Shr.q T l i + 1 else hamJ T l j k) = hamJ T l (j + 1) k) := st2
            have HRO : Hid (RowI wr g4 l.length (hamJ T l j)) := ro
            have HK : Hid (w8.grownBy wr (some g4)) := K
            have iz : (i : Int) < (l.length : Int) := by omega
            have jz : (j : Int) < (L : Int) := by omega
            clear ro K st1 st2 hGi hq
            generalize Shr.q T l i = qi at *
            go_wp2
            go_roundw
            case rel => exact ⟨j + 1, by omega, by go_num, (HRO.out.set i _).congr HST.out, HK.out.trans (grown_set _ _ _ _)⟩
            case measure => simp [intOf]; omega
          · obtain rfl : j = L := by omega
            go_wp2
            go_ret2
            refine ⟨_, rfl, OutI.mk (Nat.le_trans HB6.out.2 hgo) (ro.congr (fun i _ => hamJ_end T l j HL.out i)), ?_⟩
            have Bz := below_grown HB8.out (Nat.le_trans HX.out.hB HB8.out.size) hgo K
            exact HB6.out.1.trans (Bz.mono HB6.out.2)
  · obtain ⟨hx, r4, r5, bw⟩ := HW.out
    clear HW HR B2 hmk HXS
    change HBx (hamW w T l a cap) _ _ _ _ _ T l a cap at hx
    show Exit.then _ _ _ _ (hamW w T l a cap)
    have hsz : w.heap.size ≤ w.heap.size + 1 + 1 + 1 + 1 := by omega
    generalize hamW w T l a cap = W6 at *
    generalize w.heap.size + 1 + 1 + 1 + 1 = g4 at *
    have h45 : g4 ≤ g4 + 1 := by omega
    have hne : g4 ≠ g4 + 1 := by omega
    generalize g4 + 1 = g5 at *
    generalize w.heap.size + 1 + 1 + 1 = p3 at *
    generalize w.heap.size + 1 + 1 = p2 at *
    generalize w.heap.size + 1 = p1 at *
    obtain ⟨p0, hp0⟩ : ∃ p0, p0 = w.heap.size := ⟨_, rfl⟩
    have hne' : g5 ≠ g4 := by omega
    have hne2 : g4 ≠ g5 := by omega
    have hgo : g4 ≤ g5 := by omega
    have hgr : g4 ≤ g4 := by omega
    have ro := r5
    have rr := r4
    have HX : Hid (HBx W6 g4 w.heap.size p1 p2 p3 T l a cap) := hx
    have HB6 : Hid (Below w.heap.size w W6 ∧ w.heap.size ≤ g4) := ⟨bw, hsz⟩
    have hc1 := hx.c1
    clear r4 r5 hx bw hp0
    go_wp2
    clear hc1
    go_loopw [11, 12, 32] (fun _ _ cv wr => ∃ k : Nat, k ≤ l.length ∧ cv = .int .i64 k ∧ RowI wr g5 l.length (fun i => if i < k then Shr.q T l i else 0) ∧ RowI wr g4 l.length (fun i => if i < k then (i : Int) else 0) ∧ Below g4 W6 wr) (fun _ _ cv _ => l.length - (intOf cv).toNat)
    case atStart => exact ⟨0, Nat.zero_le _, rfl, ro.congr (fun i _ => by simp), rr.congr (fun i _ => by simp), Below.refl _ _⟩
    case round =>
      clear ro rr
      obtain ⟨k, hk, rfl, ro, rr, Bw⟩ := hrel
      have hx := HX.out.below Bw
      by_cases hlt : k < l.length
      · obtain ⟨b, off, rfl, -, -, c4⟩ := hx.row.get hlt
        have c0 := hx.c0
        have c2 := hx.c2
        have co := ro.cell hlt
        have fo := ro.frozen k
        have cr := rr.cell hlt
        have fr := rr.frozen k
        have hp := HOK.out.prod k
        have hq := HOK.out.qr k
        have hq2 := HOK.out.q_le k
        have HQ : Hid (T * Shr.at' l k / l.sum = Shr.q T l k) := rfl
        have hp0 := hp.1
        have hp1 := hp.2
        have HRO : Hid (RowI wr g5 l.length (fun i => if i < k then Shr.q T l i else 0)) := ro
        have HRR : Hid (RowI wr g4 l.length (fun i => if i < k then (i : Int) else 0)) := rr
        have HBw : Hid (Below g4 W6 wr) := Bw
        rw [if_neg (Nat.lt_irrefl k)] at co cr
        have kz : (k : Int) < (l.length : Int) := by omega
        clear hp hq hq2 ro rr Bw hx
        generalize Shr.at' l k = x at *
        generalize hS : l.sum = S at *
        clear hS
        go_wp2
        go_roundw
        case rel =>
          refine ⟨k + 1, by omega, by go_num, ?_, ?_, below_set (below_set HBw.out hgo _ _) hgr _ _⟩
          · refine ((HRO.out.set k _).setOther hne' k _).congr (fun i _ => ?_)
            by_cases c : i = k
            · subst c; rw [if_pos rfl, if_pos (by omega)]; exact HQ.out
            · rw [if_neg c]
              by_cases c2 : i < k
              · rw [if_pos c2, if_pos (by omega)]
              · rw [if_neg c2, if_neg (by omega)]
          · refine ((HRR.out.setOther hne2 k _).set k _).congr (fun i _ => ?_)
            by_cases c : i = k
            · subst c; rw [if_pos rfl, if_pos (by omega)]
            · rw [if_neg c]
              by_cases c2 : i < k
              · rw [if_pos c2, if_pos (by omega)]
              · rw [if_neg c2, if_neg (by omega)]
        case measure => simp [intOf]; omega
      · obtain rfl : k = l.length := by omega
        have ro2 : RowI wr g5 l.length (Shr.q T l) := ro.congr (fun i hi => if_pos hi)
        have rr2 : RowI wr g4 l.length (fun i => (i : Int)) := rr.congr (fun i hi => if_pos hi)
        have HS := sortStable_any 12 #[.pointer (some ⟨p3, 0, none⟩)] g4 wr l.length (ham_cmp wr g4 w.heap.size p1 p2 p3 T l a cap HOK.out hx) (Shr.ord T l) g4 l.length l.length (fun i => (i : Int)) wr (by omega) hgr (Below.refl _ _) rr2 (fun i j h1 h2 => by omega) (fun i hi => by omega)
        have HO : Hid (RowI wr g5 l.length (Shr.q T l)) := ro2
        have HBw : Hid (Below g4 W6 wr) := Bw
        have HHX : Hid (HBx wr g4 w.heap.size p1 p2 p3 T l a cap) := hx
        clear ro rr ro2 rr2 Bw hx
        go_wp2_with fail
        refine HS.mono ?_
        rintro e w7 ⟨rfl, G, RG, SG, MG, KG⟩
        have RO7 := HO.out.grown KG hne'
        have B7 := below_grown HBw.out (Nat.le_trans HX.out.hB HBw.out.size) hgr KG
        have hx7 := HX.out.below B7
        have hc0 := cell_regrown hx7.c0
        have HSG : Hid (Srt.Sorted (fun x y => Shr.ltb T l x y = true) G 0 l.length ∧ Srt.Same G (fun k => (k : Int)) 0 l.length) := ⟨SG, MG⟩
        have HRG : Hid (RowI w7 g4 l.length G) := RG
        have HRO : Hid (RowI w7 g5 l.length (Shr.q T l)) := RO7
        have HB7 : Hid (Below g4 W6 w7 ∧ g4 ≤ W6.heap.size) := ⟨B7, HX.out.hB⟩
        have HSUM : Hid (∀ d os, Calls Try.prog 9 #[.slice (some ⟨g5, 0, none⟩) l.length l.length] (grow (redrawn w7 d) os) fun e w' => e = .returned (.int .i64 (Shr.sm l.length (Shr.q T l))) ∧ Below (grow (redrawn w7 d) os).heap.size (grow (redrawn w7 d) os) w') := fun d os =>
          sumRow_any g5 l.length l.length (Shr.q T l) _ (by omega) (fun i => ⟨(HOK.out.qr i).2.2.2, by have := HOK.out.q_le i; omega⟩) (RO7.below (below_regrown w7 d os))
        clear HS RG RO7 B7 SG MG KG HO HBw HHX hx7
        have hq0 : 0 ≤ Shr.sm l.length (Shr.q T l) := Shr.sm_nonneg _ _ (fun i _ => (HOK.out.qr i).2.2.2)
        have ht0 := HOK.out.t0
        have ht1 := HOK.out.t1
        have hqs : Shr.sm l.length (Shr.q T l) ≤ T := by have := HLT.out; omega
        have HLT' := HLT.out
        have Lz : (L : Int) ≤ (l.length : Int) := by omega
        generalize Shr.sm l.length (Shr.q T l) = Q at *
        have wz : IntKind.i64.wrap (L : Int) = (L : Int) := by rw [IntKind.wrap_i64]; omega
        have wz2 : IntKind.i64.wrap (T - Q) = (L : Int) := by rw [HLT', wz]
        go_wp2_with fail
        refine wp_region_quiet_below (by kernel_rfl) (by kernel_rfl) ?_
        repeat go_big_quiet_step ((go_at_call 9; exact Calls.regrown_of (HSUM.out _ _)))
        refine wpQuiet_nil ?_
        intro _ hw'
        obtain ⟨⟨dq, osq⟩, hw''⟩ := hw'
        subst hw''
        have B8 := below_regrown w7 dq osq
        generalize grow (redrawn w7 dq) osq = w8 at *
        have HRG8 : Hid (RowI w8 g4 l.length G) := HRG.out.below B8
        have ro8 : RowI w8 g5 l.length (hamJ T l 0) := (HRO.out.below B8).congr (fun i _ => (hamJ_zero T l i).symm)
        have HB8 : Hid (Below g4 W6 w8) := below_on HB7.out.1 HB7.out.2 B8
        clear HRG HRO B8 hc0 HSUM HB7
        go_wp2
        go_loopw [14, 60] (fun _ cv wr2 => ∃ j : Nat, j ≤ L ∧ cv = .int .i64 j ∧ RowI wr2 g5 l.length (hamJ T l j) ∧ w8.grownBy wr2 (some g5)) (fun _ cv _ => L - (intOf cv).toNat)
        case atStart => exact ⟨0, Nat.zero_le _, rfl, ro8, World.grownBy.refl _ _⟩
        case round =>
          clear ro8
          obtain ⟨j, hj, rfl, ro, K⟩ := hrel
          by_cases hlt2 : j < L
          · obtain ⟨i, -, hi, hGi⟩ := HSG.out.2.1 j (Nat.zero_le _) (by omega)
            have cg := (HRG8.out.grown K hne2).cell (i := j) (by omega)
            rw [hGi] at cg
            obtain ⟨st1, st2⟩ := hamJ_step T l G HSG.out.1 HSG.out.2 j i (by omega) hGi
            have co := ro.cell hi
            rw [st1] at co
            have fo := ro.frozen i
            have hq := HOK.out.qr i
            have hq2 := HOK.out.q_le i
            have hq1 := hq.2.2.2
            have HST : Hid (∀ k, k < l.length → (if k = i then Shr.q T l i + 1 else hamJ T l j k) = hamJ T l (j + 1) k) := st2
            have HRO : Hid (RowI wr g5 l.length (hamJ T l j)) := ro
            have HK : Hid (w8.grownBy wr (some g5)) := K
            have iz : (i : Int) < (l.length : Int) := by omega
            have jz : (j : Int) < (L : Int) := by omega
            clear ro K st1 st2 hGi hq
            generalize Shr.q T l i = qi at *
            go_wp2
            go_roundw
            case rel => exact ⟨j + 1, by omega, by go_num, (HRO.out.set i _).congr HST.out, HK.out.trans (grown_set _ _ _ _)⟩
            case measure => simp [intOf]; omega
          · obtain rfl : j = L := by omega
            go_wp2
            go_ret2
            refine ⟨_, rfl, OutI.mk (Nat.le_trans HB6.out.2 hgo) (ro.congr (fun i _ => hamJ_end T l j HL.out i)), ?_⟩
            have Bz := below_grown HB8.out (Nat.le_trans HX.out.hB HB8.out.size) hgo K
            exact HB6.out.1.trans (Bz.mono HB6.out.2)
theorem pHamilton (T : Int) (l : List Int) (a : Option Addr) (cap : Nat) (w : World) (hl : l.length ≤ maxLen) (hr : Row1 w a l) :
    Calls Try.prog 4 #[.int .i64 T, .slice a l.length cap] w fun e w' => ∃ v, e = .returned (.tuple #[v, .int .i64 (Shr.code T l)]) ∧ OutI w w' v (Shr.ham T l) ∧ Below w.heap.size w w' := by
  by_cases h : Shr.code T l = 0
  · have ok := Shr.ok_of T l h
    unfold Shr.ham
    rw [if_pos h, h]
    exact ham_yes T l a cap w ok h hr
  · unfold Shr.ham
    rw [if_neg h]
    exact (ham_no T l a cap _ w hl rfl h hr).mono fun e w' ⟨he, hw⟩ => ⟨_, he, .inl ⟨rfl, rfl⟩, hw⟩
end Go.Proofs.Ythbobmanicnplab
