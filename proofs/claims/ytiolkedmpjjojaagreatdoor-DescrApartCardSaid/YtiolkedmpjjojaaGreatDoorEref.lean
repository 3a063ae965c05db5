/-
  The document's entries: Check, Put, Cmp, Next.
-/
import Derived.Test.YtiolkedmpjjojaaGreatDoorEmath
import Derived.Test.YtiolkedmpjjojaaGreatDoorBundW
namespace Go.Proofs.YtiolkedmpjjojaaGreatDoor.em
open Go.RowKit Go.Proofs.YtiolkedmpjjojaaGreatDoor.vi Go.Proofs.YtiolkedmpjjojaaGreatDoor.um Go.Proofs.YtiolkedmpjjojaaGreatDoor.wm Go.Proofs.YtiolkedmpjjojaaGreatDoor.tr
set_option linter.unusedVariables false
set_option linter.unusedSimpArgs false

set_option maxRecDepth 100000 in
theorem rcheckE_any (x : Ent) (h1 : x.key.size ≤ 1000000) (h2 : x.value.size ≤ 1000000) (w : World) :
    Calls Tryz.prog 14 #[.agg #[.string x.key, .string x.value]] w fun e w' => e = .returned (.int .i64 (checkE x : Nat)) ∧ w.grownBy w' none := by
  have HK := Lib.hid (fun w => rcheck_any x.key h1 1 64 w)
  have HV := Lib.hid (fun w => rcheck_any x.value h2 0 256 w)
  have HG := Lib.hid (only_alloc (only_refl w none) (.cells #[.string x.key, .string x.value] 30))
  unfold checkE
  by_cases hc : checkN x.key 1 64 = 0
  · rw [if_neg (by simp [hc])]
    rw [hc] at HK
    clear hc
    go_enter Tryz.func14, Tryz.ntmps14
    go_wp2_with fail
    refine (HK.out _).mono ?_
    rintro e w1 ⟨rfl, rfl⟩
    go_wp2_with fail
    refine (HV.out _).mono ?_
    rintro e w1 ⟨rfl, rfl⟩
    go_wp2_with fail
    go_ret
    exact ⟨rfl, HG.out⟩
  · rw [if_pos hc]
    generalize checkN x.key 1 64 = q at *
    have hqb : ((q : Int) != 0) = true := by rw [bne_iff_ne]; omega
    clear hc
    go_enter Tryz.func14, Tryz.ntmps14
    go_wp2_with fail
    refine (HK.out _).mono ?_
    rintro e w1 ⟨rfl, rfl⟩
    go_wp2_with fail
    go_ret
    exact ⟨rfl, HG.out⟩

theorem put_txt (x : Ent) : encB x.key.size ++ x.key ++ encB x.value.size ++ x.value = txt (putE x) := by
  apply ByteArray.ext
  simp [putE, tw, txt, encB_txt]

set_option maxHeartbeats 1000000 in
set_option maxRecDepth 100000 in
theorem rputE_any (x : Ent) (h1 : x.key.size ≤ 1000000) (h2 : x.value.size ≤ 1000000) (w : World) :
    Calls Tryz.prog 16 #[.agg #[.string x.key, .string x.value]] w fun e w' => e = .returned (.string (txt (putE x))) ∧ w.grownBy w' none := by
  have HK := Lib.hid (fun w1 => rput_any x.key.size (by omega) w1)
  have HV := Lib.hid (fun w1 => rput_any x.value.size (by omega) w1)
  have HP := Lib.hid (put_txt x)
  have hz : ∀ n, n ≤ 1000000 → (encB n).size ≤ 10 := fun n hn => by rw [encB_txt, txt_size]; exact enc_len_ten (by omega)
  have hz1 := hz _ h1
  have hz2 := hz _ h2
  have HG := Lib.hid (only_alloc (only_refl w none) (.cells #[.string x.key, .string x.value] 30))
  have c0 : (w.alloc (.cells #[.string x.key, .string x.value] 30)).cell? ⟨w.heap.size, 0, none⟩ = some (.string x.key) := by rw [cell_new]; rfl
  have c1 : (w.alloc (.cells #[.string x.key, .string x.value] 30)).cell? ⟨w.heap.size, 1, none⟩ = some (.string x.value) := by rw [cell_new]; rfl
  clear hz
  generalize encB x.key.size = E1 at *
  generalize encB x.value.size = E2 at *
  go_enter Tryz.func16, Tryz.ntmps16
  go_wp2_with fail
  generalize w.alloc (.cells #[.string x.key, .string x.value] 30) = wa at *
  generalize w.heap.size = b at *
  have hl0 : ∀ g : GW wa none, g.world.cell? ⟨b, 0, none⟩ = some (.string x.key) := fun g => (Chg.of_none (S := fun _ => False) g.ok).cell c0 (fun e => e)
  have hl1 : ∀ g : GW wa none, g.world.cell? ⟨b, 1, none⟩ = some (.string x.value) := fun g => (Chg.of_none (S := fun _ => False) g.ok).cell c1 (fun e => e)
  refine wp_region_gw wa none (by kernel_rfl) (by kernel_rfl) (only_refl _ _) ?_
  repeat (go_big_quiet_step ((go_at_call 45; first | with_reducible exact calls_gw (HK.out _) | with_reducible exact calls_gw (HV.out _))))
  refine wpQuiet_nil ?_
  rintro _ ⟨⟨w', hw'⟩, rfl⟩
  go_wp2_with fail
  go_ret
  exact ⟨ret1 (congrArg Value.string HP.out), only_trans HG.out hw'⟩

theorem less_drop (s t : ByteArray) (i : Nat) (hs : i < s.size) (ht : i < t.size) :
    Op.bytesLess (s.data.toList.drop i) (t.data.toList.drop i) = (decide (s[i] < t[i]) || (s[i] == t[i] && Op.bytesLess (s.data.toList.drop (i + 1)) (t.data.toList.drop (i + 1)))) := by
  rw [List.drop_eq_getElem_cons (i := i) (by simpa using hs), List.drop_eq_getElem_cons (i := i) (by simpa using ht)]
  rfl

set_option maxRecDepth 100000 in
theorem rless_any (s t : ByteArray) (h1 : s.size ≤ 1000000) (h2 : t.size ≤ 1000000) (w : World) :
    Calls Tryz.prog 48 #[.string s, .string t] w fun e w' => e = .returned (.bool (Op.bytesLess s.data.toList t.data.toList)) ∧ w.grownBy w' none := by
  go_enter Tryz.func48, Tryz.ntmps48
  have H1 := Lib.hid (show s.data.toList.length = s.size by simp)
  have H2 := Lib.hid (show t.data.toList.length = t.size by simp)
  go_wp2_with fail
  go_loopw [5] (fun q wr => ∃ i : Nat, i ≤ s.size ∧ i ≤ t.size ∧ q = .int .i64 i ∧ Op.bytesLess s.data.toList t.data.toList = Op.bytesLess (s.data.toList.drop i) (t.data.toList.drop i) ∧ ∃ n, wr = w.drewN n) (fun q _ => s.size - (intOf q).toNat)
  case atStart => exact ⟨0, Nat.zero_le _, Nat.zero_le _, rfl, by simp, 0, rfl⟩
  case round =>
    obtain ⟨i, hi1, hi2, rfl, hL, n0, rfl⟩ := hrel
    by_cases hlt1 : i < s.size
    · by_cases hlt2 : i < t.size
      · have HD := Lib.hid (hL.trans (less_drop s t i hlt1 hlt2))
        clear hL
        by_cases hq : s[i] = t[i]
        · have HD2 : Hid (Op.bytesLess s.data.toList t.data.toList = Op.bytesLess (s.data.toList.drop (i + 1)) (t.data.toList.drop (i + 1))) := by
            show _ = _
            rw [HD.out, hq]
            simp [UInt8.lt_irrefl]
          have hqi : (s[i].toNat : Int) = (t[i].toNat : Int) := by rw [hq]
          clear HD hq
          go_wp2_with fail
          go_quiet (fail)
          go_wp2_with fail
          go_roundw
          case rel => exact ⟨i + 1, by omega, by omega, by go_num, HD2.out, _, rfl⟩
          case measure => simp [intOf]; omega
        · have hqi : ¬ (s[i].toNat : Int) = (t[i].toNat : Int) := fun e => hq (UInt8.toNat_inj.1 (by omega))
          have HD2 : Hid (Op.bytesLess s.data.toList t.data.toList = decide (s[i].toNat < t[i].toNat)) := by
            show _ = _
            rw [HD.out, show (s[i] == t[i]) = false from by simpa using hq]
            simp [UInt8.lt_iff_toNat_lt]
          clear HD hq
          go_wp2_with fail
          go_quiet (fail)
          go_wp2_with fail
          go_quiet (fail)
          go_wp2_with fail
          go_ret
          rw [HD2.out]
          exact ⟨rfl, only_drewN (only_drewN (only_drewN (only_refl _ _) _) _) _⟩
      · have hie : i = t.size := by omega
        have HD : Hid (Op.bytesLess s.data.toList t.data.toList = false) := by
          show _ = _
          rw [hL, show t.data.toList.drop i = [] from List.drop_eq_nil_of_le (by rw [H2.out]; omega)]
          cases s.data.toList.drop i <;> rfl
        clear hL
        have hlen : ¬ (s.size : Int) < (t.size : Int) := by omega
        go_wp2_with fail
        go_ret
        rw [HD.out]
        exact ⟨by simp [hlen], only_drewN (only_refl _ _) _⟩
    · have hie : i = s.size := by omega
      have HD : Hid (Op.bytesLess s.data.toList t.data.toList = decide (s.size < t.size)) := by
        show _ = _
        rw [hL, show s.data.toList.drop i = [] from List.drop_eq_nil_of_le (by rw [H1.out]; omega)]
        by_cases hlt : i < t.size
        · rw [List.drop_eq_getElem_cons (by rw [H2.out]; omega)]
          simp [Op.bytesLess]; omega
        · rw [List.drop_eq_nil_of_le (by rw [H2.out]; omega)]
          simp [Op.bytesLess]; omega
      clear hL
      go_wp2_with fail
      go_ret
      rw [HD.out]
      exact ⟨rfl, only_drewN (only_refl _ _) _⟩

theorem txt_ext (s : ByteArray) (a b : Nat) : txt ((s.data.toList.drop a).take b) = s.extract a (a + b) := by
  apply bytes_inj
  rw [txt_list]
  simp
theorem txt_rest (s : ByteArray) (a : Nat) : txt (s.data.toList.drop a) = s.extract a s.size := by
  apply bytes_inj
  rw [txt_list, bytes_drop]

set_option maxRecDepth 100000 in
theorem rtext_any (s : ByteArray) (hs : s.size ≤ 1000000) (w : World) :
    Calls Tryz.prog 41 #[.string s] w fun e w' => e = .returned (.tuple #[.string (txt (textW s.data.toList).1), .string (txt (textW s.data.toList).2.1), .int .i64 ((textW s.data.toList).2.2 : Nat)]) ∧ ∃ n, w' = w.drewN n := by
  have HG := Lib.hid (rget_any s (by unfold maxLen; omega) w)
  have hb := getR_bounds s.data.toList
  have he := @getR_err s.data.toList
  have hl : s.data.toList.length = s.size := by simp
  have HT : Hid (textW s.data.toList = if (getR s.data.toList).2.2 ≠ 0 then ([], [], (getR s.data.toList).2.2) else if s.size - (getR s.data.toList).2.1 < (getR s.data.toList).1 then ([], [], 1) else ((s.data.toList.drop (getR s.data.toList).2.1).take (getR s.data.toList).1, s.data.toList.drop ((getR s.data.toList).2.1 + (getR s.data.toList).1), 0)) := by
    show _ = _
    unfold textW
    rw [hl]
  generalize textW s.data.toList = R at *
  generalize getR s.data.toList = r at *
  obtain ⟨x, m, E⟩ := r
  unfold getV at HG
  simp only at hb he HG HT
  rw [hl] at hb
  obtain ⟨hx, hm, hm10, hE, hpos⟩ := hb
  clear hl hpos
  by_cases h0 : E = 0
  · subst h0
    clear he
    by_cases h1 : s.size - m < x
    · have hi : (s.size : Int) - m < x := by omega
      have HR : Hid (R = ([], [], 1)) := by show _ = _; rw [HT.out, if_neg (by simp), if_pos h1]
      clear HT
      go_enter Tryz.func41, Tryz.ntmps41
      go_wp2_with fail
      refine HG.out.mono ?_
      rintro e w1 ⟨rfl, rfl⟩
      go_wp2_with fail
      go_ret3
      rw [HR.out]
      exact ⟨rfl, 0, rfl⟩
    · have HR : Hid (R = ((s.data.toList.drop m).take x, s.data.toList.drop (m + x), 0)) := by show _ = _; rw [HT.out, if_neg (by simp), if_neg h1]
      clear HT
      go_enter Tryz.func41, Tryz.ntmps41
      go_wp2_with fail
      refine HG.out.mono ?_
      rintro e w1 ⟨rfl, rfl⟩
      go_wp2_with fail
      rw [show (m : Int) + (x : Int) = ((m + x : Nat) : Int) from rfl]
      have HE1 := Lib.hid (txt_ext s m x)
      have HE2 := Lib.hid (txt_rest s (m + x))
      have hp1 : m ≤ m + x := by omega
      have hp2 : m + x ≤ s.size := by omega
      generalize m + x = p at *
      go_quiet (fail)
      go_wp2_with fail
      go_ret3
      rw [HR.out]
      exact ⟨ret3 (congrArg Value.string HE1.out.symm) (congrArg Value.string HE2.out.symm) rfl, _, rfl⟩
  · have HR : Hid (R = ([], [], E)) := by show _ = _; rw [HT.out, if_pos h0]
    have hqb : ((E : Int) != 0) = true := by rw [bne_iff_ne]; omega
    clear HT h0
    go_enter Tryz.func41, Tryz.ntmps41
    go_wp2_with fail
    refine HG.out.mono ?_
    rintro e w1 ⟨rfl, rfl⟩
    go_wp2_with fail
    go_ret3
    rw [HR.out]
    exact ⟨rfl, 0, rfl⟩

theorem beq_bytes (a b : ByteArray) : (a.toList == b.toList) = decide (a = b) := by
  rw [ByteArray.toList_eq, ByteArray.toList_eq]
  by_cases h : a = b
  · subst h; simp
  · rw [decide_eq_false h]
    exact beq_eq_false_iff_ne.2 fun e => h (bytes_inj e)

/-- What a result's block and a variable's hold, in any world that comes later. -/
theorem res_var (w : World) (n : Nat) (ty : TypeId) (z0 z1 v0 v1 : Value) : ∀ w', ((((w.alloc (.cells #[z0, z1] ty)).drewN n).alloc (.cells #[v0, v1] ty))).grownBy w' none →
    w'.heap[w.heap.size]? = some (.cells #[z0, z1] ty (0, 0)) ∧ w'.heap[w.heap.size + 1]? = some (.cells #[v0, v1] ty (0, 0)) := fun w' g => by
  have h1 : (((w.alloc (.cells #[z0, z1] ty)).drewN n).alloc (.cells #[v0, v1] ty)).heap[w.heap.size]? = some (.cells #[z0, z1] ty (0, 0)) := by
    rw [heap_alloc_old _ _ (by simp [World.drewN])]
    exact heap_alloc_new w _
  have h2 : (((w.alloc (.cells #[z0, z1] ty)).drewN n).alloc (.cells #[v0, v1] ty)).heap[w.heap.size + 1]? = some (.cells #[v0, v1] ty (0, 0)) := by
    have := heap_alloc_new ((w.alloc (.cells #[z0, z1] ty)).drewN n) (.cells #[v0, v1] ty)
    rw [show ((w.alloc (.cells #[z0, z1] ty)).drewN n).heap.size = w.heap.size + 1 by simp [World.drewN]] at this
    exact this
  exact ⟨(g.block _ (Array.getElem?_eq_some_iff.1 h1).1 (by simp)).trans h1, (g.block _ (Array.getElem?_eq_some_iff.1 h2).1 (by simp)).trans h2⟩

/-- Two entries, each in a block of its own. -/
theorem two_vars (w : World) (ty : TypeId) (x y : Ent) : ∀ w', ((w.alloc (.cells #[.string x.key, .string x.value] ty)).alloc (.cells #[.string y.key, .string y.value] ty)).grownBy w' none →
    w'.cell? ⟨w.heap.size, 0, none⟩ = some (.string x.key) ∧ w'.cell? ⟨w.heap.size, 1, none⟩ = some (.string x.value) ∧ w'.cell? ⟨w.heap.size + 1, 0, none⟩ = some (.string y.key) ∧ w'.cell? ⟨w.heap.size + 1, 1, none⟩ = some (.string y.value) := fun w' g => by
  have c0 : (w.alloc (.cells #[.string x.key, .string x.value] ty)).cell? ⟨w.heap.size, 0, none⟩ = some (.string x.key) := by rw [cell_new]; rfl
  have c1 : (w.alloc (.cells #[.string x.key, .string x.value] ty)).cell? ⟨w.heap.size, 1, none⟩ = some (.string x.value) := by rw [cell_new]; rfl
  have hs : (w.alloc (.cells #[.string x.key, .string x.value] ty)).heap.size = w.heap.size + 1 := by simp
  have d0 : ((w.alloc (.cells #[.string x.key, .string x.value] ty)).alloc (.cells #[.string y.key, .string y.value] ty)).cell? ⟨w.heap.size + 1, 0, none⟩ = some (.string y.key) := by rw [← hs, cell_new]; rfl
  have d1 : ((w.alloc (.cells #[.string x.key, .string x.value] ty)).alloc (.cells #[.string y.key, .string y.value] ty)).cell? ⟨w.heap.size + 1, 1, none⟩ = some (.string y.value) := by rw [← hs, cell_new]; rfl
  have ga := only_alloc (only_refl (w.alloc (.cells #[.string x.key, .string x.value] ty)) none) (.cells #[.string y.key, .string y.value] ty)
  have k := Chg.of_none (S := fun _ => False) g
  have k1 := Chg.of_none (S := fun _ => False) (only_trans ga g)
  exact ⟨k1.cell c0 (fun e => e), k1.cell c1 (fun e => e), k.cell d0 (fun e => e), k.cell d1 (fun e => e)⟩

set_option maxHeartbeats 1000000 in
set_option maxRecDepth 100000 in
theorem rcmp_any (x y : Ent) (h1 : x.key.size ≤ 1000000) (h2 : x.value.size ≤ 1000000) (h3 : y.key.size ≤ 1000000) (h4 : y.value.size ≤ 1000000) (w : World) :
    Calls Tryz.prog 18 #[.agg #[.string x.key, .string x.value], .agg #[.string y.key, .string y.value]] w fun e w' => e = .returned (.int .i64 (cmpE x y)) ∧ w.grownBy w' none := by
  have HK := Lib.hid (fun w => rless_any x.key y.key h1 h3 w)
  have HV := Lib.hid (fun w => rless_any x.value y.value h2 h4 w)
  have HG := Lib.hid (only_alloc (only_alloc (only_refl w none) (.cells #[.string x.key, .string x.value] 30)) (.cells #[.string y.key, .string y.value] 30))
  have HT := Lib.hid (two_vars w 30 x y)
  have hkb : (x.key.toList == y.key.toList) = decide (x.key = y.key) := beq_bytes _ _
  have hvb : (x.value.toList == y.value.toList) = decide (x.value = y.value) := beq_bytes _ _
  have HE : Hid (cmpE x y = if Op.bytesLess x.key.data.toList y.key.data.toList = true then -1 else if x.key = y.key then (if Op.bytesLess x.value.data.toList y.value.data.toList = true then -1 else if x.value = y.value then 0 else 1) else 1) := by
    show _ = _
    unfold cmpE cmpB
    by_cases hk : x.key = y.key
    · rw [if_pos hk, hk, less_irrefl]; simp
    · rw [if_neg hk]; simp [hk]
  obtain ⟨kx, vx⟩ := x
  obtain ⟨ky, vy⟩ := y
  simp only at *
  cases hA : Op.bytesLess kx.data.toList ky.data.toList with
  | true =>
    rw [hA] at HK HE
    rw [HE.out]
    clear hA
    go_enter Tryz.func18, Tryz.ntmps18
    go_wp2_with fail
    refine (HK.out _).mono ?_
    rintro e w2 ⟨rfl, g2⟩
    obtain ⟨c0, c1, d0, d1⟩ := HT.out w2 g2
    have G2 := Lib.hid (only_trans HG.out g2)
    clear g2
    go_wp2_with fail
    go_ret
    exact ⟨by simp, G2.out⟩
  | false =>
    rw [hA] at HK HE
    clear hA
    by_cases hk : kx = ky
    · rw [show decide (kx = ky) = true from decide_eq_true hk] at hkb
      have HKE := Lib.hid hk
      clear hk
      cases hB : Op.bytesLess vx.data.toList vy.data.toList with
      | true =>
        rw [hB] at HV HE
        clear hB
        go_enter Tryz.func18, Tryz.ntmps18
        go_wp2_with fail
        refine (HK.out _).mono ?_
        rintro e w2 ⟨rfl, g2⟩
        obtain ⟨c0, c1, d0, d1⟩ := HT.out w2 g2
        have G2 := Lib.hid (only_trans HG.out g2)
        have K2 := Lib.hid g2
        clear g2
        go_wp2_with fail
        refine (HV.out _).mono ?_
        rintro e w3 ⟨rfl, g3⟩
        obtain ⟨c0, c1, d0, d1⟩ := HT.out w3 (only_trans K2.out g3)
        have G3 := Lib.hid (only_trans G2.out g3)
        clear g3
        go_wp2_with fail
        go_ret
        rw [HE.out, HKE.out]
        exact ⟨by simp, G3.out⟩
      | false =>
        rw [hB] at HV HE
        clear hB
        by_cases hv : vx = vy
        · rw [show decide (vx = vy) = true from decide_eq_true hv] at hvb
          have HVE := Lib.hid hv
          clear hv
          go_enter Tryz.func18, Tryz.ntmps18
          go_wp2_with fail
          refine (HK.out _).mono ?_
          rintro e w2 ⟨rfl, g2⟩
          obtain ⟨c0, c1, d0, d1⟩ := HT.out w2 g2
          have G2 := Lib.hid (only_trans HG.out g2)
          have K2 := Lib.hid g2
          clear g2
          go_wp2_with fail
          refine (HV.out _).mono ?_
          rintro e w3 ⟨rfl, g3⟩
          obtain ⟨c0, c1, d0, d1⟩ := HT.out w3 (only_trans K2.out g3)
          have G3 := Lib.hid (only_trans G2.out g3)
          clear g3
          go_wp2_with fail
          go_ret
          rw [HE.out, HKE.out, HVE.out]
          exact ⟨by simp, G3.out⟩
        · rw [show decide (vx = vy) = false from decide_eq_false hv] at hvb
          have HVE := Lib.hid hv
          clear hv
          go_enter Tryz.func18, Tryz.ntmps18
          go_wp2_with fail
          refine (HK.out _).mono ?_
          rintro e w2 ⟨rfl, g2⟩
          obtain ⟨c0, c1, d0, d1⟩ := HT.out w2 g2
          have G2 := Lib.hid (only_trans HG.out g2)
          have K2 := Lib.hid g2
          clear g2
          go_wp2_with fail
          refine (HV.out _).mono ?_
          rintro e w3 ⟨rfl, g3⟩
          obtain ⟨c0, c1, d0, d1⟩ := HT.out w3 (only_trans K2.out g3)
          have G3 := Lib.hid (only_trans G2.out g3)
          clear g3
          go_wp2_with fail
          go_ret
          rw [HE.out, HKE.out]
          exact ⟨by simp [HVE.out], G3.out⟩
    · rw [show decide (kx = ky) = false from decide_eq_false hk] at hkb
      have HKE := Lib.hid hk
      clear hk
      go_enter Tryz.func18, Tryz.ntmps18
      go_wp2_with fail
      refine (HK.out _).mono ?_
      rintro e w2 ⟨rfl, g2⟩
      obtain ⟨c0, c1, d0, d1⟩ := HT.out w2 g2
      have G2 := Lib.hid (only_trans HG.out g2)
      have K2 := Lib.hid g2
      clear g2
      go_wp2_with fail
      go_ret
      rw [HE.out]
      exact ⟨by simp [HKE.out], G2.out⟩

theorem tw_le (L : List UInt8) : (textW L).1.length + (textW L).2.1.length ≤ L.length := by
  unfold textW
  split
  · simp
  · split
    · simp
    · simp; omega

set_option maxHeartbeats 1000000 in
set_option maxRecDepth 100000 in
theorem rnextE_any (s : ByteArray) (hs : s.size ≤ 1000000) (w : World) :
    Calls Tryz.prog 12 #[.string s] w fun e w' => e = .returned (.tuple #[.agg #[.string (nextE s.data.toList).1.key, .string (nextE s.data.toList).1.value], .string (txt (nextE s.data.toList).2.1), .int .i64 ((nextE s.data.toList).2.2 : Nat)]) ∧ w.grownBy w' none := by
  have HT1 := Lib.hid (rtext_any s hs)
  have hr := tw_le s.data.toList
  have HT2 := Lib.hid (fun w => rtext_any (txt (textW s.data.toList).2.1) (by rw [txt_size]; simp at hr; omega) w)
  rw [txt_list] at HT2
  have hr2 := tw_le (textW s.data.toList).2.1
  have HC := Lib.hid (fun w => rcheckE_any ⟨txt (textW s.data.toList).1, txt (textW (textW s.data.toList).2.1).1⟩ (by show (txt _).size ≤ _; rw [txt_size]; simp at hr; omega) (by show (txt _).size ≤ _; rw [txt_size]; simp at hr; omega) w)
  clear hr2
  have hlt1 := textW_lt s.data.toList
  have hlt2 := textW_lt (textW s.data.toList).2.1
  have hlt3 := checkE_lt ⟨txt (textW s.data.toList).1, txt (textW (textW s.data.toList).2.1).1⟩
  unfold nextE
  have E1 := @textW_err s.data.toList
  have E2 := @textW_err (textW s.data.toList).2.1
  generalize textW s.data.toList = R at *
  obtain ⟨t1, r1, q1⟩ := R
  simp only at *
  generalize textW r1 = R at *
  obtain ⟨t2, r2, q2⟩ := R
  simp only at *
  by_cases h1 : q1 = 0
  · subst h1
    rw [if_neg (by simp)]
    clear E1
    by_cases h2 : q2 = 0
    · subst h2
      rw [if_neg (by simp)]
      clear E2 hlt1 hlt2
      generalize hE : checkE ⟨txt t1, txt t2⟩ = q3 at *
      by_cases h3 : q3 = 0
      · subst h3
        rw [if_neg (by simp)]
        clear hE hlt3 hr
        go_enter Tryz.func12, Tryz.ntmps12
        go_wp2_with fail
        refine (HT1.out _).mono ?_
        rintro e w1 ⟨rfl, n1, rfl⟩
        go_wp2_with fail
        refine (HT2.out _).mono ?_
        rintro e w1 ⟨rfl, n2, rfl⟩
        go_wp2_with fail
        refine (HC.out _).mono ?_
        rintro e w5 ⟨rfl, g5⟩
        obtain ⟨hb5, hx5⟩ := res_var w (n1 + n2) 30 (.string ⟨#[]⟩) (.string ⟨#[]⟩) (.string (txt t1)) (.string (txt t2)) w5 g5
        have G5 := Lib.hid (only_trans (only_alloc (only_drewN (only_alloc (only_refl w none) (.cells #[.string ⟨#[]⟩, .string ⟨#[]⟩] 30)) (n1 + n2)) (.cells #[.string (txt t1), .string (txt t2)] 30)) g5)
        have x0 : w5.frozen? ⟨w.heap.size, 0, none⟩ = false := by simp [World.frozen?, hb5]
        have x1 : w5.frozen? ⟨w.heap.size, 1, none⟩ = false := by simp [World.frozen?, hb5]
        have z0 : w5.cell? ⟨w.heap.size, 0, none⟩ = some (.string ⟨#[]⟩) := by simp [World.cell?, hb5]
        have z1 : w5.cell? ⟨w.heap.size, 1, none⟩ = some (.string ⟨#[]⟩) := by simp [World.cell?, hb5]
        have c0 : w5.cell? ⟨w.heap.size + 1, 0, none⟩ = some (.string (txt t1)) := by simp [World.cell?, hx5]
        have c1 : w5.cell? ⟨w.heap.size + 1, 1, none⟩ = some (.string (txt t2)) := by simp [World.cell?, hx5]
        have HB5 := Lib.hid hb5
        clear g5 hb5 hx5
        go_wp2_with fail
        exact bodyPost_ret (results_cell3 rfl _ _ w.heap.size 30 #[.string (txt t1), .string (txt t2)] (0, 0) _ rfl (heap_setc (heap_setc HB5.out)) Tryz.underlying30 rfl (by kernel_rfl)) rfl ⟨rfl, only_setCell (only_setCell G5.out (.inr (Nat.le_refl _)) _) (.inr (Nat.le_refl _)) _⟩
      · rw [if_pos h3]
        have hqb : ((q3 : Int) != 0) = true := by rw [bne_iff_ne]; omega
        clear hE hr h3
        go_enter Tryz.func12, Tryz.ntmps12
        go_wp2_with fail
        refine (HT1.out _).mono ?_
        rintro e w1 ⟨rfl, n1, rfl⟩
        go_wp2_with fail
        refine (HT2.out _).mono ?_
        rintro e w1 ⟨rfl, n2, rfl⟩
        go_wp2_with fail
        refine (HC.out _).mono ?_
        rintro e w5 ⟨rfl, g5⟩
        obtain ⟨hb5, hx5⟩ := res_var w (n1 + n2) 30 (.string ⟨#[]⟩) (.string ⟨#[]⟩) (.string (txt t1)) (.string (txt t2)) w5 g5
        have G5 := Lib.hid (only_trans (only_alloc (only_drewN (only_alloc (only_refl w none) (.cells #[.string ⟨#[]⟩, .string ⟨#[]⟩] 30)) (n1 + n2)) (.cells #[.string (txt t1), .string (txt t2)] 30)) g5)
        have x0 : w5.frozen? ⟨w.heap.size, 0, none⟩ = false := by simp [World.frozen?, hb5]
        have x1 : w5.frozen? ⟨w.heap.size, 1, none⟩ = false := by simp [World.frozen?, hb5]
        have z0 : w5.cell? ⟨w.heap.size, 0, none⟩ = some (.string ⟨#[]⟩) := by simp [World.cell?, hb5]
        have z1 : w5.cell? ⟨w.heap.size, 1, none⟩ = some (.string ⟨#[]⟩) := by simp [World.cell?, hb5]
        have c0 : w5.cell? ⟨w.heap.size + 1, 0, none⟩ = some (.string (txt t1)) := by simp [World.cell?, hx5]
        have c1 : w5.cell? ⟨w.heap.size + 1, 1, none⟩ = some (.string (txt t2)) := by simp [World.cell?, hx5]
        have HB5 := Lib.hid hb5
        clear g5 hb5 hx5
        go_wp2_with fail
        exact bodyPost_ret (results_cell3 rfl _ _ w.heap.size 30 #[.string ⟨#[]⟩, .string ⟨#[]⟩] (0, 0) _ rfl (heap_setc (heap_setc HB5.out)) Tryz.underlying30 rfl (by kernel_rfl)) rfl ⟨rfl, only_setCell (only_setCell G5.out (.inr (Nat.le_refl _)) _) (.inr (Nat.le_refl _)) _⟩
    · rw [if_pos h2]
      obtain ⟨rfl, rfl⟩ := E2 h2
      have hqb : ((q2 : Int) != 0) = true := by rw [bne_iff_ne]; omega
      clear HC E2 h2 hr hlt1 hlt3
      go_enter Tryz.func12, Tryz.ntmps12
      go_wp2_with fail
      refine (HT1.out _).mono ?_
      rintro e w1 ⟨rfl, n1, rfl⟩
      go_wp2_with fail
      refine (HT2.out _).mono ?_
      rintro e w1 ⟨rfl, n2, rfl⟩
      go_wp2_with fail
      exact bodyPost_ret (results_cell3 rfl _ _ w.heap.size 30 #[.string ⟨#[]⟩, .string ⟨#[]⟩] (0, 0) _ rfl (heap_setc (heap_setc (heap_alloc_new w _))) Tryz.underlying30 rfl (by kernel_rfl)) rfl ⟨rfl, only_setCell (only_setCell (only_drewN (only_alloc (only_refl _ _) _) _) (.inr (Nat.le_refl _)) _) (.inr (Nat.le_refl _)) _⟩
  · rw [if_pos h1]
    obtain ⟨rfl, rfl⟩ := E1 h1
    have hqb : ((q1 : Int) != 0) = true := by rw [bne_iff_ne]; omega
    clear HT2 HC E1 E2 h1 hr hlt2 hlt3
    go_enter Tryz.func12, Tryz.ntmps12
    go_wp2_with fail
    refine (HT1.out _).mono ?_
    rintro e w1 ⟨rfl, n1, rfl⟩
    go_wp2_with fail
    exact bodyPost_ret (results_cell3 rfl _ _ w.heap.size 30 #[.string ⟨#[]⟩, .string ⟨#[]⟩] (0, 0) _ rfl (heap_setc (heap_setc (heap_alloc_new w _))) Tryz.underlying30 rfl (by kernel_rfl)) rfl ⟨rfl, only_setCell (only_setCell (only_drewN (only_alloc (only_refl _ _) _) _) (.inr (Nat.le_refl _)) _) (.inr (Nat.le_refl _)) _⟩

end Go.Proofs.YtiolkedmpjjojaaGreatDoor.em
