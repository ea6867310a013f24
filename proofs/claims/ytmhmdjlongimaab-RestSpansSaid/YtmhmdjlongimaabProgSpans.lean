/- The contracts of package spans, all together. -/
import Derived.Test.YtmhmdjlongimaabSOf
